/-
  script.writePowers.
-/
import Derived.Test.YtonkdcbmmdhjgaaGreatDoorScL
import Derived.Test.YtonkdcbmmdhjgaaGreatDoorAp
import Derived.Test.YtonkdcbmmdhjgaaGreatDoorArgI
namespace Go.Proofs
open Go.RowKit Go.Shelf

shelf_lay Lays.n156 Nm 156 at Tryz as Tryz.joinSc
theorem Tryz.joinX : Builder.Extra Tryz.prog Tryz.joinSc_ren where
  sizeBuilder := by kernel_rfl
  liesBuilder := by kernel_rfl
  t5 := Tryz.splitSc.t5
  a5 := Tryz.splitSc.a5
  z5 := Tryz.splitSc.z5
  v5 := Tryz.splitSc.v5
  infoByte := by kernel_rfl
  cellsByte := by kernel_rfl
  sizeByte := by kernel_rfl
  neB5 := by decide
end Go.Proofs
namespace Go.Proofs.YtonkdcbmmdhjgaaGreatDoor
open Go.RowKit Go.Shelf

theorem str_infoS : (Tryz.prog.info? 9).map (fun i => (i.zero, i.size, i.bytes)) = some (some (.string ByteArray.empty), 1, 16) := by kernel_rfl
theorem joinP_join (c : UInt8) : ∀ ps : List (List UInt8), Lib.join ps [c] = joinP c ps
  | [] => rfl
  | [p] => by rw [Lib.join_one]; rfl
  | p :: q :: r => by
    rw [joinP, ← joinP_join c (q :: r), Lib.join_cons, Lib.join_cons]
    simp [Lib.joinTail]
/-- Strings of one's own, joined. -/
theorem join_is (W : World) (base : Nat) (A : Option Addr) (n c : Nat) (xs : List ByteArray) (sep : ByteArray) (h : W.ownsRow base 9 1 (.slice A n c) n (xs.map Value.string)) (hn : n ≤ 1000000) (hl : (Lib.join (xs.map (·.data.toList)) sep.data.toList).length ≤ 140737488355328) :
    Calls Tryz.prog 20 #[.slice A n c, .string sep] W fun e w' => e = .returned (.string ⟨(Lib.join (xs.map (·.data.toList)) sep.data.toList).toArray⟩) ∧ W.grownBy w' none := by
  have hlen : xs.length = n := by have := h.1; simpa using this
  rcases h.2 with ⟨e, hx⟩ | ⟨g, cap, cur, e, _, hh, hnc, _, hs, ht⟩
  · injection e with e1 e2 e3
    subst e1 e2 e3
    have hx0 : xs = [] := List.eq_nil_of_length_eq_zero hlen
    subst hx0
    exact (Any.strings_Join_none Tryz.joinSc Tryz.joinX none 0 sep W).mono fun e w' ⟨he, hw⟩ => ⟨he, hw ▸ World.grownBy.refl _ _⟩
  · injection e with e1 e2 e3
    subst e1 e3 hlen
    have hb : Blk W g 9 cur := hh
    refine (Any.strings_Join Tryz.joinSc Tryz.joinX g 0 c xs sep W (fun j x hj => ?_) hb.lt (by omega) hnc hl).mono fun e w' ⟨he, hw⟩ => ⟨he, Below.gr hw⟩
    have hj1 : j < xs.length := (List.getElem?_eq_some_iff.1 hj).1
    rw [Nat.zero_add, hb.cell j]
    have hj2 : (cur.toList.take (xs.length * 1))[j]? = some (.string x) := by rw [ht, List.getElem?_map, hj]; rfl
    rw [List.getElem?_take] at hj2
    split at hj2
    · simpa using hj2
    · cases hj2
theorem IntsAt.gr {w w' : World} {A : Option Addr} {l : List Int} (h : IntsAt w A l) (g : w.grownBy w' none) : IntsAt w' A l := h.kept (Kept.of_grown (F := fun _ => False) g fun _ e => by cases e) fun _ _ h => h
theorem sum_le {B : Nat} : ∀ ps : List (List UInt8), (∀ p ∈ ps, p.length ≤ B) → (ps.map (·.length + 1)).sum ≤ (B + 1) * ps.length
  | [], _ => by simp
  | p :: r, h => by
    have h1 := sum_le r fun q hq => h q (List.mem_cons_of_mem _ hq)
    have h2 := h p (by simp)
    simp only [List.map_cons, List.sum_cons, List.length_cons, Nat.mul_add, Nat.mul_one]
    omega
theorem joinP_le {B : Nat} (c : UInt8) (ps : List (List UInt8)) (h : ∀ p ∈ ps, p.length ≤ B) : (joinP c ps).length ≤ (B + 1) * ps.length := by
  by_cases hp : ps = []
  · subst hp; simp [joinP]
  · have h1 := joinP_len c ps hp
    have h2 := sum_le ps h
    omega
set_option maxRecDepth 100000 in
set_option maxHeartbeats 2000000 in
theorem wpows_is (w : World) (he : ScEnv w) (A : Option Addr) (n c : Nat) (l : List Int) (hn : l.length = n) (hb : IntsAt w A l) (hz : ∀ z ∈ l, -9223372036854775808 ≤ z ∧ z ≤ 9223372036854775807) (hd : n ≤ 1000) :
    Calls Tryz.prog 23 #[.slice A n c] w fun e w' => e = .returned (.string (strB (joinP 44 (l.map Lib.itoa)))) ∧ w.grownBy w' none := by
  obtain ⟨i0, hi0, hz0, hz1, hz2⟩ := info_parts str_infoS
  have HI0 := Lib.hid (And.intro hi0 (And.intro hz0 (And.intro hz1 hz2)))
  have HX := Lib.hid (And.intro hn (And.intro hb (And.intro hz he)))
  clear hi0 hz0 hz1 hz2 hn hb hz he
  go_enter Tryz.func23, Tryz.ntmps23
  go_wp2_with fail
  go_loopw [3, 8] (fun v i wr => ∃ k : Nat, k ≤ n ∧ i = .int .i64 (k : Int) ∧ wr.ownsRow w.heap.size 9 1 v k (((l.take k).map fun z => strB (Lib.itoa z)).map Value.string) ∧ w.grownBy wr none) (fun _ i _ => n - (intOf i).toNat)
  case atStart => exact ⟨0, Nat.zero_le _, rfl, World.ownsRow_nil _ _ _ _, World.grownBy.refl _ _⟩
  case round =>
    obtain ⟨k, hk, rfl, hown, hK⟩ := hrel
    rename World => wr
    have HO := Lib.hid hown
    have HK := Lib.hid hK
    clear hown hK
    by_cases hlt : k < n
    · have d1 : decide ((k : Int) < (n : Int)) = true := by simp; omega
      have hkd : k < l.length := by rw [HX.out.1]; exact hlt
      obtain ⟨b, off, rfl, hcs⟩ := (HX.out.2.1.gr HK.out).get (by intro e; rw [e] at hkd; simp at hkd)
      obtain ⟨x, hx⟩ : ∃ x, x = l[k] := ⟨_, rfl⟩
      have c0 : wr.cell? ⟨b, off + k, none⟩ = some (.int .i64 x) := by rw [hx]; exact hcs k hkd
      have hxq : l[k]? = some x := by rw [hx]; exact List.getElem?_eq_getElem hkd
      have hxz := HX.out.2.2.1 x (by rw [hx]; exact List.getElem_mem hkd)
      have HT := Lib.hid (itoa_is x hxz.1 hxz.2 wr (HX.out.2.2.2.grown HK.out))
      obtain ⟨S, hS⟩ : ∃ S, S = strB (Lib.itoa x) := ⟨_, rfl⟩
      rw [show (⟨(Lib.itoa x).toArray⟩ : ByteArray) = strB (Lib.itoa x) from rfl, ← hS] at HT
      have HH := Lib.hid (And.intro hxq hS)
      clear hcs hx hkd hxq hxz hS
      go_wp2_with fail
      refine HT.out.mono ?_
      rintro e w1 ⟨rfl, k1⟩
      have HO1 := Lib.hid (own_gr HO.out k1)
      have HK1 := Lib.hid (grown_trans HK.out k1)
      clear k1
      go_wp2_with (at_builtin
                   refine wpList_push rfl _ _ 58 rfl w.heap.size 9 9 i0 (.string ByteArray.empty) 16 Tryz.underlying58 HI0.out.1 HI0.out.2.1 HI0.out.2.2.1 HI0.out.2.2.2 rfl _ _ _ rfl HO1.out _ rfl rfl (by omega) (by omega) HK1.out.size ?_
                   intro v' w3 hown3 hgrow
                   have HO3 := Lib.hid hown3
                   have HK3 := Lib.hid (grown_own HK1.out hgrow HO1.out (Nat.le_refl _))
                   clear hown3 hgrow)
      go_roundw
      case rel =>
        refine ⟨k + 1, by omega, rfl, ?_, HK3.out⟩
        obtain ⟨hxq, hS⟩ := HH.out
        have h := HO3.out
        rw [List.take_add_one, hxq, List.map_append, List.map_append]
        simp only [Option.toList, List.map_cons, List.map_nil, ← hS]
        exact h
      case measure => simp [intOf]; omega
    · have d1 : decide ((k : Int) < (n : Int)) = false := by simp; omega
      obtain rfl : k = n := by omega
      obtain ⟨B, m, rfl⟩ := own_slice _ HO.out
      have htk : l.take k = l := List.take_of_length_le (by rw [HX.out.1]; exact Nat.le_refl _)
      rw [htk] at HO
      have hmap : (l.map fun z => strB (Lib.itoa z)).map (·.data.toList) = l.map Lib.itoa := by rw [List.map_map]; exact List.map_congr_left fun z _ => by simp [strB]
      have hle : (joinP 44 (l.map Lib.itoa)).length ≤ 22 * k := by
        have := joinP_le (B := 21) 44 (l.map Lib.itoa) (fun p hp => by
          obtain ⟨z, hz, rfl⟩ := List.mem_map.1 hp
          have := HX.out.2.2.1 z hz
          exact Lib.itoa_length_le z this.1 this.2)
        rwa [List.length_map, HX.out.1] at this
      have hsep : (⟨#[44]⟩ : ByteArray).data.toList = [44] := rfl
      have hJ := join_is wr w.heap.size B k m (l.map fun z => strB (Lib.itoa z)) ⟨#[44]⟩ HO.out (by omega) (by rw [hmap, hsep, joinP_join]; omega)
      rw [hmap, hsep, joinP_join] at hJ
      have HJ := Lib.hid hJ
      clear hJ htk hmap hle hsep
      go_wp2_with fail
      refine HJ.out.mono ?_
      rintro e w1 ⟨rfl, k1⟩
      have HK1 := Lib.hid (grown_trans HK.out k1)
      clear k1
      go_wp2_with fail
      go_ret
      exact ⟨rfl, HK1.out⟩
end Go.Proofs.YtonkdcbmmdhjgaaGreatDoor
