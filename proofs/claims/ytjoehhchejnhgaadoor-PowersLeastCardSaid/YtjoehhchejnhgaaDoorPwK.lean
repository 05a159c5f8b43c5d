/-
  The places whose bits are set.
-/
import Derived.Laws.Bits64b
import Derived.Test.YtjoehhchejnhgaaDoorPwG
namespace Go.Proofs.YtjoehhchejnhgaaDoor
open Go.RowKit

theorem int_info : (Tryd.prog.info? 3).map (fun i => (i.zero, i.size, i.bytes)) = some (some (.int .i64 0), 1, 8) := by kernel_rfl
theorem grown_own {a b c : World} {v : Value} {base : Nat} {e : TypeId} {size n : Nat} {xs : List Value} (h : a.grownBy b none) (k : b.grownBy c v.ownBlock) (hv : b.ownsRow base e size v n xs) (hB : a.heap.size ≤ base) : a.grownBy c none := by
  cases hg : v.ownBlock with
  | none => rw [hg] at k; exact grown_trans h k
  | some g => rw [hg] at k; exact grown_fresh h k (Nat.le_trans hB (hv.lt g hg).1)
theorem addr_zero_add (b j : Nat) : (⟨b, 0, none⟩ : Addr).add j = ⟨b, j, none⟩ := by
  have h : ∀ o, (⟨b, o, none⟩ : Addr).add j = ⟨b, o + j, none⟩ := fun o => by simp [Addr.add]
  have := h 0
  rwa [Nat.zero_add] at this
theorem own_keep {w w' : World} {base : Nat} {e : TypeId} {size n : Nat} {v : Value} {xs : List Value} (h : w.ownsRow base e size v n xs) (hg : w.grownBy w' none) : w'.ownsRow base e size v n xs :=
  h.kept hg (by cases v.ownBlock with
    | none => exact .inl rfl
    | some g => exact .inr (by simp))
theorem wpList_append_one {P : Program} {w0 : World} {ops : Array Oper} {rest : List Oper} {o : Oper} {a : Act} {Q : Exit → Act → World → Prop} (hgd : o.guard = none) (s x : Operand) (t : TypeId)
    (ho : o.op = .call { callee := .builtin .append, args := #[s, x], argTypes := #[t, t] }) (base : Nat) (e e0 : TypeId) (i : TypeInfo) (ht : P.underlying t = some (.slice e)) (hi : P.info? e = some i) (hz : i.zero = some (.int .i64 0)) (hsize : i.size = 1) (hby : i.bytes = 8)
    (v : Value) (n : Nat) (xs : List Value) (hs : a.eval s = v) (hown : w0.ownsRow base e 1 v n xs) (y : Int) (hx : a.eval x = .slice (some ⟨w0.heap.size, 0, none⟩) 1 1) (hn : n ≤ 1000) (hbase : base ≤ w0.heap.size)
    (h : ∀ v' w', w'.ownsRow base e 1 v' (n + 1) (xs ++ [.int .i64 y]) → w0.grownBy w' v.ownBlock → wpList P ops Q rest (a.put o.dst v') w') : wpList P ops Q (o :: rest) a (w0.alloc (.cells #[.int .i64 y] e0)) := by
  refine wpList_append_own _ hgd s x t ho base e i (.int .i64 0) 1 8 ht hi hz hsize hby rfl (by omega) v n xs hs (hown.alloc _) ⟨w0.heap.size, 0, none⟩ 1 1 [.int .i64 y] hx rfl (fun j u hu => ?_) (by simp [Value.oneCell']) (by simp only [maxLen]; omega) (by omega) (by rw [World.size_alloc]; omega) (fun v' w' h1 h2 _ => h v' w' h1 (grown_trans (World.grownBy_alloc w0 _ _) h2))
  have : j = 0 := by
    have := (List.getElem?_eq_some_iff.1 hu).1
    simp at this
    omega
  subst this
  have h1 := (Blk.new w0 e0 #[.int .i64 y]).cell 0
  rw [show (⟨w0.heap.size, 0, none⟩ : Addr).add 0 = ⟨w0.heap.size, 0, none⟩ by simp [Addr.add], h1]
  simpa using hu
theorem own_ints {w : World} {base : Nat} {e : TypeId} {n : Nat} {v : Value} {L : List Int} (h : w.ownsRow base e 1 v n (L.map (Value.int .i64))) : ∃ A cap, v = .slice A L.length cap ∧ L.length ≤ cap ∧ IntsAt w A L := by
  have hl : L.length = n := by have := h.1; simpa using this
  subst hl
  rcases h.2 with ⟨hv, h0⟩ | ⟨g, cap, cur, rfl, hb, hg, hnc, _, hsz, htake⟩
  · obtain rfl : L = [] := List.length_eq_zero_iff.1 h0
    exact ⟨none, 0, hv, Nat.le_refl _, fun h => absurd rfl h⟩
  · refine ⟨_, cap, rfl, hnc, fun _ => ⟨_, rfl, fun j hj => ?_⟩⟩
    rw [addr_zero_add, Joins.cell_of_block hg j, ← Array.getElem?_toList]
    have e1 : (cur.toList.take (L.length * 1))[j]? = cur.toList[j]? := by rw [List.getElem?_take, if_pos (by omega)]
    rw [← e1, htake]
    simp [List.getElem?_eq_getElem hj]

def bitOf (z : Int) (i : Nat) : Bool := z.toNat.testBit i
def chosenS (b : Nat → Bool) (n : Nat) : List Int := ((List.range n).filter b).map Int.ofNat
theorem chosenS_yes {b : Nat → Bool} {k : Nat} (h : b k = true) : chosenS b (k + 1) = chosenS b k ++ [(k : Int)] := by
  simp [chosenS, List.range_succ, h]
theorem chosenS_no {b : Nat → Bool} {k : Nat} (h : b k = false) : chosenS b (k + 1) = chosenS b k := by
  simp [chosenS, List.range_succ, h]
theorem chosenS_length (b : Nat → Bool) (k : Nat) : (chosenS b k).length ≤ k := by
  have := List.length_filter_le b (List.range k)
  simpa [chosenS] using this

theorem bit_test (z : Int) (k : Nat) (h : 0 ≤ z ∧ z < 18446744073709551616) : bits .and .u64 (z / 2 ^ k) 1 = if bitOf z k then 1 else 0 := by
  obtain ⟨n, rfl⟩ := Int.eq_ofNat_of_zero_le h.1
  have hn : n / 2 ^ k ≤ n := Nat.div_le_self _ _
  have e : (n : Int) / 2 ^ k = ((n / 2 ^ k : Nat) : Int) := by simp
  rw [e, show (1 : Int) = ((1 : Nat) : Int) from rfl, bits_and_u64_nat _ _ (by omega) (by omega), Nat.and_one_is_mod, bitOf, Int.toNat_natCast, Nat.testBit_eq_decide_div_mod_eq]
  by_cases h1 : n / 2 ^ k % 2 = 1
  · simp [h1]
  · have : n / 2 ^ k % 2 = 0 := by omega
    simp [this]

set_option maxRecDepth 100000 in
set_option maxHeartbeats 1000000 in
theorem chosen_is (w : World) (A : Option Addr) (n c : Nat) (z : Int) (hn : n ≤ 7) (hb : 0 ≤ z ∧ z < 18446744073709551616) :
    Calls Tryd.prog 24 #[.slice A n c, .int .u64 z] w fun e w' => (∃ A' c', e = .returned (.slice A' (chosenS (bitOf z) n).length c') ∧ (chosenS (bitOf z) n).length ≤ c' ∧ IntsAt w' A' (chosenS (bitOf z) n)) ∧ w.grownBy w' none := by
  obtain ⟨i0, hi0, hz0, hz1, hz2⟩ := info_parts int_info
  have HI0 := Lib.hid (And.intro hi0 (And.intro hz0 (And.intro hz1 hz2)))
  have hown := World.ownsRow_lit (base := w.heap.size) (e := 3) (size := 1) w #[] 0 (by omega) (by decide) rfl
  have HOWN := Lib.hid hown
  have HB := Lib.hid hb
  clear hi0 hz0 hz1 hz2 hown
  go_enter Tryd.func24, Tryd.ntmps24
  go_wp2_with fail
  go_loopw [5, 10] (fun v i wr => ∃ k : Nat, k ≤ n ∧ i = .int .i64 (k : Int) ∧ wr.ownsRow w.heap.size 3 1 v (chosenS (bitOf z) k).length ((chosenS (bitOf z) k).map (Value.int .i64)) ∧ w.grownBy wr none) (fun _ i _ => n - (intOf i).toNat)
  case atStart => exact ⟨0, by omega, rfl, by simpa [chosenS] using HOWN.out, World.grownBy_alloc _ _ none⟩
  case round =>
    obtain ⟨k, hkn, hi, hown, hK⟩ := hrel
    obtain ⟨I, hI⟩ : ∃ I : Int, I = (k : Int) := ⟨_, rfl⟩
    rw [← hI] at hi
    subst hi
    by_cases hlt : k < n
    · have d1 : decide (I < (n : Int)) = true := by simp; omega
      have hIV : I < (n : Int) := by omega
      have hI0 : 0 ≤ I ∧ I < 1000 := by omega
      have hN : (chosenS (bitOf z) k).length ≤ k := chosenS_length _ _
      have hbt := bit_test z k hb
      rw [show k = I.toNat by omega] at hbt
      cases hbk : bitOf z I.toNat with
      | true =>
        rw [hbk] at hbt
        have hs := chosenS_yes (b := bitOf z) (k := k) (by rw [← hbk, show k = I.toNat by omega])
        have hbt' : bits .and .u64 (z / 2 ^ I.toNat) 1 = 1 := by simpa using hbt
        have HN := Lib.hid (And.intro hs (And.intro hI (And.intro hlt hN)))
        have HO := Lib.hid hown
        have HG := Lib.hid hK
        clear hs hI hlt hN hown hK hbt hbk hkn
        go_wp2_with (at_builtin; refine wpList_append_one rfl _ _ 23 rfl w.heap.size 3 _ i0 Tryd.underlying23 HI0.out.1 HI0.out.2.1 HI0.out.2.2.1 HI0.out.2.2.2 _ _ _ rfl HO.out I rfl (by have := HN.out.2.2.1; have := HN.out.2.2.2; omega) HG.out.size ?_; intro v' w4 hown4 hgrow; have HO4 := Lib.hid hown4; have HG4 := Lib.hid (grown_own HG.out hgrow HO.out (Nat.le_refl _)); clear hown4 hgrow)
        go_wp2_with fail
        go_roundw
        case rel =>
          obtain ⟨hs, hI, hlt, hN⟩ := HN.out
          refine ⟨k + 1, by omega, by rw [hI]; rfl, ?_, HG4.out⟩
          rw [hs, List.map_append, List.length_append]
          have := HO4.out
          rw [hI] at this
          exact this
        case measure => obtain ⟨hs, hI, hlt, hN⟩ := HN.out; simp [intOf]; omega
      | false =>
        rw [hbk] at hbt
        have hs := chosenS_no (b := bitOf z) (k := k) (by rw [← hbk, show k = I.toNat by omega])
        have hbt' : bits .and .u64 (z / 2 ^ I.toNat) 1 = 0 := by simpa using hbt
        have HN := Lib.hid (And.intro hs (And.intro hI (And.intro hlt hN)))
        have HO := Lib.hid hown
        have HG := Lib.hid hK
        clear hs hI hlt hN hown hK hbt hbk hkn
        go_wp2_with fail
        go_roundw
        case rel =>
          obtain ⟨hs, hI, hlt, hN⟩ := HN.out
          exact ⟨k + 1, by omega, by rw [hI]; rfl, by rw [hs]; exact HO.out, HG.out⟩
        case measure => obtain ⟨hs, hI, hlt, hN⟩ := HN.out; simp [intOf]; omega
    · have d1 : decide (I < (n : Int)) = false := by simp; omega
      obtain rfl : k = n := by omega
      obtain ⟨A', c', rfl, hcap, hints⟩ := own_ints hown
      have HO := Lib.hid (And.intro hcap (And.intro hints hK))
      clear hcap hints hK hown hlt hI hkn
      go_wp2_with fail
      go_ret
      exact ⟨⟨A', c', rfl, HO.out.1, HO.out.2.1⟩, HO.out.2.2⟩
end Go.Proofs.YtjoehhchejnhgaaDoor
