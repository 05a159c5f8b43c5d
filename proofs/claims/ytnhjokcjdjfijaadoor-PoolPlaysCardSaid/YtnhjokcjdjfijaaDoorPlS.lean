/-
  Pool, by the document: Add, Take, Drop; SameTexts, SameLists.
-/
import Derived.Test.YtnhjokcjdjfijaaDoorPlR
namespace Go.Proofs.YtnhjokcjdjfijaaDoor
open Go.RowKit

theorem wpList_push_at {P : Program} {w0 : World} {ops : Array Oper} {rest : List Oper} {o : Oper} {a : Act} {Q : Exit → Act → World → Prop} (hgd : o.guard = none) (s x : Operand) (t : TypeId)
    (ho : o.op = .call { callee := .builtin .append, args := #[s, x], argTypes := #[t, t] }) (base : Nat) (e e0 : TypeId) (i : TypeInfo) (z : Value) (bytes : Nat) (ht : P.underlying t = some (.slice e)) (hi : P.info? e = some i) (hz : i.zero = some z) (hsize : i.size = 1) (hby : i.bytes = bytes) (hzs : z.cells.size = 1)
    (A : Option Addr) (n c : Nat) (xs : List Value) (hs : a.eval s = .slice A n c) (hown : w0.ownsRow base e 1 (.slice A n c) n xs) (u : Value) (hu1 : u.oneCell' = true) (hx : a.eval x = .slice (some ⟨w0.heap.size, 0, none⟩) 1 1) (hn : n ≤ 1000000) (hb : bytes ≤ 1000) (hbase : base ≤ w0.heap.size)
    (h : ∀ A' c' w', w'.ownsRow base e 1 (.slice A' (n + 1) c') (n + 1) (xs ++ [u]) → (w0.alloc (.cells #[u] e0)).grownBy w' (Value.slice A n c).ownBlock → ((Value.slice A' (n + 1) c').ownBlock = (Value.slice A n c).ownBlock ∨ (Value.slice A' (n + 1) c').ownBlock = some (w0.alloc (.cells #[u] e0)).heap.size) → wpList P ops Q rest (a.put o.dst (.slice A' (n + 1) c')) w') : wpList P ops Q (o :: rest) a (w0.alloc (.cells #[u] e0)) := by
  refine wpList_append_own_at _ hgd s x t ho base e i z 1 bytes ht hi hz hsize hby hzs (by omega) _ n xs hs (hown.alloc _) ⟨w0.heap.size, 0, none⟩ 1 1 [u] hx rfl (fun j y hy => ?_) (by simp [hu1]) (by simp only [maxLen]; omega) (by
    have := Nat.mul_le_mul (show n + 1 ≤ 1000001 by omega) hb
    omega) (by rw [World.size_alloc]; omega) (fun v' w' h1 h2 _ h4 => by
      obtain ⟨A', c', rfl⟩ := own_slice w' h1
      exact h A' c' w' h1 h2 h4)
  have : j = 0 := by
    have := (List.getElem?_eq_some_iff.1 hy).1
    simp at this
    omega
  subst this
  have h1 := (Blk.new w0 e0 #[u]).cell 0
  rw [show (⟨w0.heap.size, 0, none⟩ : Addr).add 0 = ⟨w0.heap.size, 0, none⟩ by simp [Addr.add], h1]
  simpa using hy

/-- The document's pool at m. -/
def ModIs (w : World) (S : Nat → Prop) (m : Nat) (L : List (List UInt8)) : Prop :=
  S m ∧ ∃ (A : Option Addr) (c : Nat), Blk w m 29 #[.slice A L.length c] ∧ w.ownsRow 0 9 1 (.slice A L.length c) L.length (L.map strV) ∧ ∀ ad, A = some ad → S ad.block
section
variable {w w' : World} {S T F : Nat → Prop} {m : Nat} {L : List (List UInt8)}
theorem ModIs.kept (h : ModIs w S m L) (hk : Kept F w w') (hF : ∀ k, F k → ¬ S k) : ModIs w' S m L := by
  obtain ⟨h1, A, c, h2, h3, h4⟩ := h
  exact ⟨h1, A, c, h2.kept hk (fun h => hF _ h h1), own_kept h3 hk (fun k hk hf => by obtain ⟨a, e1, e2⟩ := own_at hk; subst e2; exact hF _ hf (h4 a e1)), h4⟩
theorem ModIs.lt (h : ModIs w S m L) : m < w.heap.size := by obtain ⟨_, A, c, h2, _⟩ := h; exact h2.lt
theorem ModIs.mono (h : ModIs w S m L) (hST : ∀ k, k < w.heap.size → S k → T k) : ModIs w T m L := by
  have hp := h.lt
  obtain ⟨h1, A, c, h2, h3, h4⟩ := h
  exact ⟨hST _ hp h1, A, c, h2, h3, fun ad e => hST _ (by subst e; exact (h3.lt ad.block rfl).2) (h4 ad e)⟩
end

set_option maxRecDepth 100000 in
set_option maxHeartbeats 1000000 in
theorem rpool_add (w : World) (S : Nat → Prop) (m : Nat) (L : List (List UInt8)) (h : ModIs w S m L) (hL : L.length ≤ 1000) (x : List UInt8) :
    Calls Tryd.prog 13 #[.pointer (some ⟨m, 0, none⟩), .string ⟨x.toArray⟩] w fun e w' => e = .returned (.int .i64 (addE L x : Int)) ∧ ModIs w' (upTo S w.heap.size w'.heap.size) m (addL L x) ∧ Kept S w w' := by
  obtain ⟨hS, A, c, hb, hown, hA⟩ := id h
  have c0 := hb.cell 0
  simp only [List.getElem?_toArray, List.getElem?_cons_zero] at c0
  have HH := Lib.hid (rhas_is w A L.length c L rfl (by omega) (strs_own hown) x)
  have HM := Lib.hid (And.intro h (And.intro hS (And.intro hb (And.intro hown hA))))
  have hstop : addE L x ≠ 0 → ModIs w (upTo S w.heap.size w.heap.size) m (addL L x) := fun h0 => by rw [addL, if_neg h0]; exact h.mono (fun _ _ h => .inl h)
  have HSt := Lib.hid hstop
  clear h hS hb hown hA hstop
  by_cases h1 : x.length < 1 ∨ 16 < x.length
  · have hE : addE L x = 4 := by rw [addE, if_pos h1]
    have HE := Lib.hid hE
    clear hE
    by_cases h2 : x.length < 1
    · have hx : x = [] := List.length_eq_zero_iff.1 (by omega)
      subst hx
      clear h1 h2
      go_enter Tryd.func13, Tryd.ntmps13
      go_wp2_with fail
      go_ret
      exact ⟨by rw [HE.out]; rfl, HSt.out (by rw [HE.out]; simp), Kept.refl _ _⟩
    · have d1 : ((x.length : Int) == 0) = false := beq_eq_false_iff_ne.2 (by omega)
      have d1' : x ≠ [] := by rintro rfl; simp at h2
      have d2 : decide ((16 : Int) < (x.length : Int)) = true := by simp; omega
      have d3 : 16 < x.length := by omega
      clear h1 h2
      go_enter Tryd.func13, Tryd.ntmps13
      go_wp2_with fail
      go_ret
      exact ⟨by rw [HE.out]; rfl, HSt.out (by rw [HE.out]; simp), Kept.refl _ _⟩
  · have d1 : ((x.length : Int) == 0) = false := beq_eq_false_iff_ne.2 (by omega)
    have d1' : x ≠ [] := by rintro rfl; simp at h1
    have d2 : decide ((16 : Int) < (x.length : Int)) = false := by simp; omega
    have d3 : ¬ 16 < x.length := by omega
    have H1 := Lib.hid h1
    obtain ⟨r, hr⟩ : ∃ r, r = isIn L x := ⟨_, rfl⟩
    rw [← hr] at HH
    have HR := Lib.hid hr
    clear h1 hr
    go_enter Tryd.func13, Tryd.ntmps13
    go_wp2_with fail
    refine HH.out.mono ?_
    rintro e w1 ⟨rfl, rfl⟩
    cases r with
    | true =>
      go_wp2_with fail
      go_ret
      have hE : addE L x = 17 := by rw [addE, if_neg H1.out, if_pos HR.out.symm]
      exact ⟨by rw [hE]; rfl, HSt.out (by rw [hE]; simp), Kept.refl _ _⟩
    | false =>
      obtain ⟨n, hn⟩ : ∃ n, n = L.length := ⟨_, rfl⟩
      by_cases h16 : 16 ≤ L.length
      · have d4 : decide ((15 : Int) < (L.length : Int)) = true := by simp; omega
        have HF := Lib.hid h16
        clear h16 hn
        go_wp2_with fail
        go_ret
        have hE : addE L x = 8 := by rw [addE, if_neg H1.out, if_neg (by rw [← HR.out]; simp), if_pos HF.out]
        exact ⟨by rw [hE]; rfl, HSt.out (by rw [hE]; simp), Kept.refl _ _⟩
      · have d4 : decide ((15 : Int) < (L.length : Int)) = false := by simp; omega
        have hE : addE L x = 0 := by rw [addE, if_neg H1.out, if_neg (by rw [← HR.out]; simp), if_neg h16]
        have HE := Lib.hid hE
        obtain ⟨i0, hi, hz0, hz1, hz2⟩ := info_parts str_info
        have HI := Lib.hid (And.intro hi (And.intro hz0 (And.intro hz1 hz2)))
        have hO : ∀ k, (Value.slice A L.length c).ownBlock = some k → S k ∧ k ≠ m ∧ k < w1.heap.size := fun k hk => by
          obtain ⟨a, e1, e2⟩ := own_at hk
          subst e2
          exact ⟨HM.out.2.2.2.2 a e1, fun e => own_ne HM.out.2.2.2.1 HM.out.2.2.1 (by decide) (by rw [hk, e]), (HM.out.2.2.2.1.lt _ hk).2⟩
        have hafter : ∀ W3, (w1.alloc (.cells #[strV x] 9)).grownBy W3 (Value.slice A L.length c).ownBlock → W3.cell? ⟨m, 0, none⟩ = some (.slice A L.length c) ∧ W3.frozen? ⟨m, 0, none⟩ = false := fun W3 h3 => by
          have hb3 : Blk W3 m 29 #[.slice A L.length c] := (HM.out.2.2.1.alloc _).grown h3 (fun e => (hO m e.symm).2.1 rfl)
          exact ⟨hb3.cell 0, hb3.frozen 0⟩
        have HA := Lib.hid hafter
        have HO := Lib.hid hO
        have HW := Lib.hid (HM.out.2.2.2.1.alloc (.cells #[strV x] 9))
        clear hi hz0 hz1 hz2 hE h16 hn hO hafter
        go_wp2_with (at_builtin; refine wpList_push_at rfl _ _ 27 rfl 0 9 9 i0 (.string ⟨#[]⟩) 16 Tryd.underlying27 HI.out.1 HI.out.2.1 HI.out.2.2.1 HI.out.2.2.2 rfl A L.length c _ rfl HM.out.2.2.2.1 (strV x) rfl rfl (by omega) (by omega) (Nat.zero_le _) ?_; intro A' c' w3 hown3 hg3 hat3; have q3 := (HA.out w3 hg3).1; have q4 := (HA.out w3 hg3).2)
        go_ret
        have K3 : Kept (fun j => (Value.slice A L.length c).ownBlock = some j) w1 w3 := ((Kept.refl _ w1).alloc (.cells #[strV x] 9)).next (Kept.of_grown (F := fun j => (Value.slice A L.length c).ownBlock = some j) hg3 (fun _ e => e)) (fun _ _ h => h)
        have KS : Kept (fun j => j = m) w3 (w3.setCell ⟨m, 0, none⟩ (.slice A' (L.length + 1) c')) := (Kept.refl (fun j => j = m) w3).set (p := ⟨m, 0, none⟩) (.inl rfl) _
        have hm := HM.out.1.lt
        have hadd : addL L x = L ++ [x] := by rw [addL, if_pos HE.out]
        have hlen : (addL L x).length = L.length + 1 := by rw [hadd, List.length_append]; rfl
        have s3 := K3.size
        have s4 := KS.size
        have hA' : ∀ ad, A' = some ad → (S ad.block ∧ ad.block ≠ m) ∨ w1.heap.size < ad.block ∧ ad.block < w3.heap.size := fun ad e => by
          subst e
          rcases hat3 with h | h
          · have := HO.out _ (h.symm.trans rfl); exact .inl ⟨this.1, this.2.1⟩
          · have e : ad.block = w1.heap.size + 1 := by simpa [Value.ownBlock] using h
            exact .inr ⟨by omega, (hown3.lt ad.block rfl).2⟩
        have hb3 : Blk w3 m 29 #[.slice A L.length c] := HM.out.2.2.1.kept K3 (fun h => (HO.out m h).2.1 rfl)
        refine ⟨by rw [HE.out]; rfl, ⟨.inl HM.out.2.1, A', c', ?_, ?_, fun ad e => ?_⟩, ?_⟩
        · rw [hlen]; simpa using hb3.set 0 (.slice A' (L.length + 1) c')
        · rw [hlen, hadd, List.map_append]
          exact own_kept hown3 KS (fun k hk h => by
            obtain ⟨a, e1, e2⟩ := own_at hk
            have h : k = m := h
            rcases hA' a e1 with h' | h'
            · exact h'.2 (by omega)
            · omega)
        · rcases hA' ad e with h' | h'
          · exact .inl h'.1
          · exact .inr ⟨by omega, by omega⟩
        · exact (K3.mono (G := S) (fun k _ h => (HO.out k h).1)).next KS (fun k _ h => by rw [show k = m from h]; exact HM.out.2.1)

set_option maxRecDepth 100000 in
set_option maxHeartbeats 1000000 in
theorem rpool_take (w : World) (S : Nat → Prop) (m : Nat) (L : List (List UInt8)) (h : ModIs w S m L) (hL : L.length ≤ 1000) (nn : Int) (A0 : Option Addr) (nD cD : Nat) (D : List (List UInt8)) (hn : D.length = nD) (hnb : nD ≤ 100000) (hD : StrsAt w A0 D) :
    Calls Tryd.prog 17 #[.pointer (some ⟨m, 0, none⟩), .int .i64 nn, .slice A0 nD cD] w fun e w' => ∃ A' c', e = .returned (.slice A' (takeL nn D L).length c') ∧ TextsN w w' A' c' (takeL nn D L) := by
  obtain ⟨hS, A, c, hb, hown, hA⟩ := h
  obtain ⟨i0, hi0, hz0, hz1, hz2⟩ := info_parts str_info
  have HI := Lib.hid (And.intro hi0 (And.intro hz0 (And.intro hz1 hz2)))
  have c0 := (hb.grown (World.grownBy_alloc w (.cells #[] 9) none) (by simp)).cell 0
  simp only [List.getElem?_toArray, List.getElem?_cons_zero] at c0
  have HY := Lib.hid (And.intro (strs_own hown) (And.intro hn hD))
  have hst : (w.alloc (.cells #[] 9)).ownsRow w.heap.size 9 1 (.slice (some ⟨w.heap.size, 0, none⟩) 0 0) 0 ((takeL nn D (L.take 0)).map strV) := by
    have : takeL nn D (L.take 0) = [] := by simp [takeL, dropL]
    rw [this]; exact World.ownsRow_made w #[] 0 (Nat.le_refl _) (Nat.zero_le _) rfl
  have hst0 : (takeL nn D (L.take 0)).length = 0 := by simp [takeL, dropL]
  have HS := Lib.hid (And.intro hst hst0)
  clear hS hb hown hA hi0 hz0 hz1 hz2 hn hD hst hst0
  go_enter Tryd.func17, Tryd.ntmps17
  go_wp2_with fail
  go_loopw [7, 16] (fun v i wr => ∃ (k q : Nat) (A' : Option Addr) (c' : Nat), k ≤ L.length ∧ i = .int .i64 (k : Int) ∧ v = .slice A' q c' ∧ q = (takeL nn D (L.take k)).length ∧ wr.ownsRow w.heap.size 9 1 (.slice A' q c') q ((takeL nn D (L.take k)).map strV) ∧ w.grownBy wr none) (fun _ i _ => L.length - (intOf i).toNat)
  case atStart => exact ⟨0, 0, _, _, by omega, rfl, rfl, HS.out.2.symm, HS.out.1, World.grownBy_alloc w _ none⟩
  case round =>
    obtain ⟨k, q, A', c', hk, hi, hv, hq, hown, hK⟩ := hrel
    obtain ⟨I, hI⟩ : ∃ I : Int, I = (k : Int) := ⟨_, rfl⟩
    rw [← hI] at hi
    subst hi hv
    by_cases hlt : k < L.length
    · have d1 : decide (I < (L.length : Int)) = true := by simp; omega
      have hne : L ≠ [] := by rintro rfl; simp at hlt
      obtain ⟨b, off, rfl, hc⟩ := (HY.out.1.grown hK) hne
      have hcell := hc k hlt
      have hkI : I.toNat = k := by omega
      have hx : L[k]? = some L[k] := List.getElem?_eq_getElem hlt
      have hql : q ≤ 1000 := by
        have h9 : (dropL (L.take k) D).length ≤ (L.take k).length := List.length_filter_le _ _
        rw [hq, takeL, List.length_take]
        rw [List.length_take] at h9
        omega
      generalize L[k] = x at *
      rw [← hkI, strV] at hcell
      have hI2 : 0 ≤ I ∧ I < (L.length : Int) := by omega
      have HB := Lib.hid (And.intro hI (And.intro hlt (And.intro hx (And.intro hK (And.intro hq hown)))))
      by_cases hgo : (q : Int) < nn
      · have d2 : decide ((q : Int) < nn) = true := by simpa using hgo
        obtain ⟨r, hr⟩ : ∃ r, r = isIn D x := ⟨_, rfl⟩
        have hstep := takeL_go (D := D) hx (by rw [← hq]; exact hgo)
        rw [← hr] at hstep
        have HST := Lib.hid (And.intro hstep hr)
        have HH := Lib.hid (rhas_is wr A0 nD cD D HY.out.2.1 (by omega) (HY.out.2.2.grown hK) x)
        clear hc hI hlt hkI hx hK hq hown hgo hstep hr hk hne
        go_wp2_with fail
        refine HH.out.mono ?_
        rintro e w2 ⟨rfl, rfl⟩
        rw [← HST.out.2]
        cases r with
        | true =>
          go_wp2_with fail
          go_roundw
          case rel =>
            obtain ⟨hI, hlt, hx, hK, hq, hown⟩ := HB.out
            have hs := HST.out.1
            simp only [if_true] at hs
            exact ⟨k + 1, q, A', c', by omega, by rw [hI]; rfl, rfl, by rw [hs]; exact hq, by rw [hs]; exact hown, hK⟩
          case measure => obtain ⟨hI, hlt, hx, hK, hq, hown⟩ := HB.out; simp [intOf]; omega
        | false =>
          go_wp2_with (at_builtin; refine wpList_push rfl _ _ 27 rfl w.heap.size 9 9 i0 (.string ⟨#[]⟩) 16 Tryd.underlying27 HI.out.1 HI.out.2.1 HI.out.2.2.1 HI.out.2.2.2 rfl (.slice A' q c') q _ rfl HB.out.2.2.2.2.2 (strV x) rfl rfl (by omega) (by omega) (by have := HB.out.2.2.2.1.size; omega) ?_; intro v' w3 hown3 hg3; obtain ⟨A3, c3, rfl⟩ := own_slice w3 hown3)
          have H3 := Lib.hid (And.intro hown3 hg3)
          clear hown3 hg3
          go_wp2_with fail
          go_roundw
          case rel =>
            obtain ⟨hI, hlt, hx, hK, hq, hown⟩ := HB.out
            obtain ⟨hown3, hg3⟩ := H3.out
            have hs := HST.out.1
            simp only [Bool.false_eq_true, if_false] at hs
            exact ⟨k + 1, q + 1, A3, c3, by omega, by rw [hI]; rfl, rfl, by rw [hs, List.length_append, ← hq]; rfl, by rw [hs, List.map_append]; exact hown3, grown_own hK hg3 hown (Nat.le_refl _)⟩
          case measure => obtain ⟨hI, hlt, hx, hK, hq, hown⟩ := HB.out; simp [intOf]; omega
      · have d2 : decide ((q : Int) < nn) = false := by simpa using hgo
        have e1 : takeL nn D (L.take k) = takeL nn D L := takeL_stop (by rw [← hq]; omega)
        have e2 : takeL nn D (L.take (k + 1)) = takeL nn D (L.take k) := by
          have h9 := takeL_stop (nn := nn) (D := D) (L := L.take (k + 1)) (k := k)
          rw [List.take_take, show min k (k + 1) = k by omega] at h9
          exact (h9 (by rw [← hq]; omega)).symm
        have HE := Lib.hid e2
        clear hc hI hlt hkI hx hK hq hown hgo e1 e2 hk hne
        go_wp2_with fail
        go_roundw
        case rel =>
          obtain ⟨hI, hlt, hx, hK, hq, hown⟩ := HB.out
          exact ⟨k + 1, q, A', c', by omega, by rw [hI]; rfl, rfl, by rw [HE.out]; exact hq, by rw [HE.out]; exact hown, hK⟩
        case measure => obtain ⟨hI, hlt, hx, hK, hq, hown⟩ := HB.out; simp [intOf]; omega
    · have d1 : decide (I < (L.length : Int)) = false := by simp; omega
      have hkn : L.take k = L := List.take_of_length_le (by omega)
      rw [hkn] at hown hq
      subst hq
      have HN := Lib.hid (And.intro hown hK)
      clear hk hlt hI hown hK hkn
      go_wp2_with fail
      go_ret
      exact ⟨A', c', rfl, HN.out⟩
end Go.Proofs.YtnhjokcjdjfijaaDoor
