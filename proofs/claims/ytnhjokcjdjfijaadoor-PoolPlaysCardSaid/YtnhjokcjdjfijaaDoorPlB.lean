/-
  Pool: copies of lists of bytes (pieces.Bytes).
-/
import Derived.Test.YtnhjokcjdjfijaaDoorPlA
namespace Go.Proofs.YtnhjokcjdjfijaaDoor
open Go.RowKit

theorem lens_of {zs : List (Value × List UInt8)} {ys : List (List UInt8)} {n : Nat} (h : zs.map (·.2) = ys) (hn : ys.length = n) : zs.length = n := by rw [← hn, ← h]; simp
theorem zip_snd : ∀ (cs : List Value) (ys : List (List UInt8)), cs.length = ys.length → (cs.zip ys).map (·.2) = ys ∧ (cs.zip ys).map (·.1) = cs
  | [], [], _ => ⟨rfl, rfl⟩
  | [], _ :: _, h => by simp at h
  | _ :: _, [], h => by simp at h
  | c :: cs, y :: ys, h => by
    obtain ⟨h1, h2⟩ := zip_snd cs ys (by simpa using h)
    simp [h1, h2]
/-- The slices' values at A. -/
theorem LsAt.values {w : World} {A : Option Addr} {ys : List (List UInt8)} (h : LsAt w A ys) : ∃ zs : List (Value × List UInt8), zs.map (·.2) = ys ∧ (∀ z ∈ zs, z.1.oneCell' = true ∧ ∃ B cB, z.1 = .slice B z.2.length cB ∧ BytesAt w B z.2) ∧
    (ys ≠ [] → ∃ b off, A = some ⟨b, off, none⟩ ∧ ∀ j (u : Value), (zs.map (·.1))[j]? = some u → w.cell? ⟨b, off + j, none⟩ = some u) := by
  by_cases hne : ys = []
  · exact ⟨[], by simp [hne], (fun z hz => by cases hz), fun h => absurd hne h⟩
  · obtain ⟨b, off, e, hc⟩ := h hne
    let cs : List Value := (List.range ys.length).map fun j => (w.cell? ⟨b, off + j, none⟩).getD undef
    have hl : cs.length = ys.length := by simp [cs]
    obtain ⟨h1, h2⟩ := zip_snd cs ys hl
    have hget : ∀ j (hj : j < ys.length), w.cell? ⟨b, off + j, none⟩ = some (cs[j]'(by omega)) := fun j hj => by
      obtain ⟨B, c, q1, _⟩ := hc j hj
      simp [cs, q1]
    refine ⟨cs.zip ys, h1, fun z hz => ?_, fun _ => ⟨b, off, e, fun j u hu => ?_⟩⟩
    · obtain ⟨j, hj, rfl⟩ := List.getElem_of_mem hz
      have hj' : j < ys.length := by simp at hj; omega
      obtain ⟨B, c, q1, q2⟩ := hc j hj'
      have hq := (hget j hj').symm.trans q1
      injection hq with hq
      simp only [List.getElem_zip]
      rw [hq]
      exact ⟨rfl, B, c, rfl, q2⟩
    · rw [h2] at hu
      obtain ⟨hj, rfl⟩ := List.getElem?_eq_some_iff.1 hu
      exact hget j (by omega)

/-- A new row of the same slices as lay there. -/
def RowsC (w w' : World) (A' : Option Addr) (n c' : Nat) (ys : List (List UInt8)) : Prop :=
  ∃ zs : List (Value × List UInt8), zs.map (·.2) = ys ∧ w'.ownsRow w.heap.size 30 1 (.slice A' n c') n (zs.map (·.1)) ∧ (∀ z ∈ zs, ∃ B cB, z.1 = .slice B z.2.length cB ∧ BytesAt w B z.2)
/-- A new row of new copies. -/
def RowsN (w w' : World) (A' : Option Addr) (n c' : Nat) (ys : List (List UInt8)) : Prop :=
  ∃ zs : List (Value × List UInt8), zs.map (·.2) = ys ∧ RowS w' (fun b => w.heap.size ≤ b) A' n c' zs

set_option maxRecDepth 100000 in
set_option maxHeartbeats 1000000 in
theorem clone_rows (w : World) (A : Option Addr) (n c : Nat) (ys : List (List UInt8)) (hn : ys.length = n) (hnb : n ≤ 100000) (hy : LsAt w A ys) :
    Calls Tryd.prog 39 #[.slice A n c] w fun e w' => ∃ (A' : Option Addr) (c' : Nat), e = .returned (.slice A' n c') ∧ RowsC w w' A' n c' ys ∧ w.grownBy w' none := by
  obtain ⟨i0, hi, hz0, hz1, hz2⟩ := info_parts lst_info
  have hq : ∀ (w : World) (a : Option Addr) (n c n' c' : Nat), (binOp .eql 31 (.slice a n c) (.slice none n' c')).run Tryd.prog w = .ok (.bool a.isNone) w := fun w a n c n' c' => Lib.run_eql_slice_nil w _ _ a n c n' c' Tryd.underlying31
  obtain ⟨zs, hs, hel, hat⟩ := hy.values
  have hlz := lens_of hs hn
  rcases A with _ | ad
  · have h0 : n = 0 := by
      rcases ys with _ | ⟨y, ys⟩
      · simpa using hn.symm
      · obtain ⟨b, off, e, _⟩ := hat (by simp)
        cases e
    subst h0
    have hzs : zs = [] := List.length_eq_zero_iff.1 hlz
    subst hzs
    have HS := Lib.hid hs
    clear hs hel hat hy hlz hn
    go_enter Tryd.func39, Tryd.ntmps39
    go_wp2
    go_ret
    exact ⟨none, 0, rfl, ⟨[], HS.out, World.ownsRow_nil _ _ _ _, (fun z hz => by cases hz)⟩, World.grownBy.refl _ _⟩
  · have hcells : ∀ j u, (zs.map (·.1))[j]? = some u → (w.alloc (.cells #[] 30)).cell? (ad.add j) = some u := fun j u hu => by
      have hj := (List.getElem?_eq_some_iff.1 hu).1
      obtain ⟨b, off, e, hc⟩ := hat (by rintro rfl; simp at hj; rw [← hlz] at hn; simp at hn; omega)
      injection e with e
      subst e
      rw [Go.WideShapes.add_plain]
      exact (World.grownBy_alloc w _ none).cell (hc j u hu) (by simp)
    have HZ := Lib.hid (And.intro hs (And.intro hel hlz))
    have hc1 : ∀ u ∈ zs.map (·.1), u.oneCell' = true := fun u hu => by
      obtain ⟨z, hz, rfl⟩ := List.mem_map.1 hu
      exact (hel z hz).1
    have hlen : (zs.map (·.1)).length = n * 1 := by simpa using hlz
    have HC := Lib.hid (And.intro hcells (And.intro hc1 hlen))
    clear hs hel hat hy hlz hcells hc1 hlen hn
    go_enter Tryd.func39, Tryd.ntmps39
    go_wp2_with (at_builtin; refine wpList_append_own _ rfl _ _ 31 rfl w.heap.size 30 i0 (.slice none 0 0) 1 24 Tryd.underlying31 hi hz0 hz1 hz2 rfl (by omega) _ _ _ rfl (World.ownsRow_made w #[] 0 (Nat.le_refl _) (Nat.zero_le _) rfl) ad n c (zs.map (·.1)) rfl HC.out.2.2 HC.out.1 HC.out.2.1 (by simp only [maxLen]; omega) (by omega) (by simp) ?_; intro v' w1 hown hgrow _; obtain ⟨A', cap', rfl⟩ := own_slice w1 hown)
    rw [Nat.zero_add, List.nil_append] at hown
    have HO := Lib.hid (And.intro hown hgrow)
    clear hown hgrow
    go_wp2
    go_ret
    exact ⟨A', cap', rfl, ⟨zs, HZ.out.1, HO.out.1, fun z hz => (HZ.out.2.1 z hz).2⟩, grown_new HO.out.2⟩
theorem enter_bclone (args : Array Value) (w : World) : (callFunc 26 args).run Tryd.prog w = .ok (.enter 26 args) w := by kernel_rfl

/-- What is known of the copies when k of them are made. -/
def EachAt (w : World) (A : Option Addr) (n c k : Nat) (ys : List (List UInt8)) (wr : World) : Prop :=
  ∃ zs : List (Value × List UInt8), zs.map (·.2) = ys ∧ wr.ownsRow w.heap.size 30 1 (.slice A n c) n (zs.map (·.1)) ∧ (∀ j z, j < k → zs[j]? = some z → ElemS wr (fun b => w.heap.size ≤ b) A z) ∧ (∀ j z, k ≤ j → zs[j]? = some z → ∃ B cB, z.1 = .slice B z.2.length cB ∧ BytesAt w B z.2)
theorem each_step {w wr w2 : World} {g n c k : Nat} {ys : List (List UInt8)} {y : List UInt8} {B2 : Option Addr} {c2 : Nat} (h : EachAt w (some ⟨g, 0, none⟩) n c k ys wr) (hk : k < n) (hy : ys[k]? = some y) (hg : w.grownBy wr none)
    (hb : w2.ownsRow wr.heap.size 5 1 (.slice B2 y.length c2) y.length (Lib.byteCells y)) (k2 : wr.grownBy w2 none) :
    EachAt w (some ⟨g, 0, none⟩) n c (k + 1) ys (w2.setCell ⟨g, k, none⟩ (.slice B2 y.length c2)) ∧ w.grownBy (w2.setCell ⟨g, k, none⟩ (.slice B2 y.length c2)) none := by
  obtain ⟨zs, hs, hown, hnew, hold⟩ := h
  have hgl := hown.lt g rfl
  have K2 : Kept (fun _ => False) wr w2 := Kept.of_grown k2 fun _ e => by cases e
  have KS : Kept (fun j => j = g) w2 (w2.setCell ⟨g, k, none⟩ (.slice B2 y.length c2)) := (Kept.refl (fun j => j = g) w2).set (p := ⟨g, k, none⟩) (.inl rfl) _
  have hown2 := own_kept hown K2 (fun _ _ h => h)
  have hl : zs.length = n := by have := hown.1; simpa using this
  refine ⟨⟨zs.set k (.slice B2 y.length c2, y), ?_, ?_, fun j z hj hz => ?_, fun j z hj hz => ?_⟩, ?_⟩
  · rw [List.map_set, hs]
    refine List.ext_getElem? fun i => ?_
    by_cases hi : k = i
    · subst hi
      rw [List.getElem?_set_self (by have := congrArg List.length hs; simp at this; omega), hy]
    · rw [List.getElem?_set_ne hi]
  · rw [List.map_set]
    exact own_put hown2 k _ hk
  · by_cases hi : k = j
    · subst hi
      rw [List.getElem?_set_self (by omega)] at hz
      injection hz with hz
      subst hz
      refine ⟨B2, c2, rfl, (row_bytesAt hb).kept' KS (fun ad e _ h => ?_), fun ad e _ => ⟨?_, fun a ea => ?_, (own_soft hb ad e).kept KS (fun h => ?_)⟩⟩
      · have := row_low hb ad e
        have h : ad.block = g := h
        omega
      · have := row_low hb ad e
        have := hg.size
        show w.heap.size ≤ ad.block
        omega
      · injection ea with ea
        subst ea
        have := row_low hb ad e
        show g ≠ ad.block
        omega
      · have := row_low hb ad e
        have h : ad.block = g := h
        omega
    · rw [List.getElem?_set_ne hi] at hz
      have h1 := (hnew j z (by omega) hz).kept K2 (fun _ h => h.elim)
      exact h1.kept KS (fun i hi _ => ⟨_, rfl, hi.symm⟩)
  · rw [List.getElem?_set_ne (by omega)] at hz
    exact hold j z (by omega) hz
  · have := grown_far (p := ⟨g, k, none⟩) (grown_trans hg k2) (.inl hgl.1) (.slice B2 y.length c2)
    exact this

set_option maxRecDepth 100000 in
set_option maxHeartbeats 1000000 in
theorem each_is (w : World) (A : Option Addr) (n c : Nat) (ys : List (List UInt8)) (hn : ys.length = n) (hnb : n ≤ 100000) (hsm : ∀ y ∈ ys, y.length ≤ 100000) (hy : LsAt w A ys) :
    Calls Tryd.prog 38 #[.slice A n c, .func (.func 26) #[] #[]] w fun e w' => ∃ (A' : Option Addr) (c' : Nat), e = .returned (.slice A' n c') ∧ RowsN w w' A' n c' ys ∧ w.grownBy w' none := by
  have hE := enter_bclone
  have HN := Lib.hid (And.intro hn hsm)
  go_enter Tryd.func38, Tryd.ntmps38
  go_wp2_with fail
  refine (clone_rows w A n c ys hn hnb hy).mono ?_
  rintro e w1 ⟨A1, c1, rfl, ⟨zs1, hs, hown, hel⟩, k1⟩
  have hst : EachAt w A1 n c1 0 ys w1 := ⟨zs1, hs, hown, fun j z hj => absurd hj (by omega), fun j z _ hz => hel z (List.mem_of_getElem? hz)⟩
  have HS := Lib.hid (And.intro hst k1)
  clear hs hown hel k1 hy hn hsm hst
  go_wp2_with fail
  go_loopw [12] (fun i wr => ∃ k : Nat, k ≤ n ∧ i = .int .i64 (k : Int) ∧ EachAt w A1 n c1 k ys wr ∧ w.grownBy wr none) (fun i _ => n - (intOf i).toNat)
  case atStart => exact ⟨0, by omega, rfl, HS.out.1, HS.out.2⟩
  case round =>
    obtain ⟨k, hk, hi, hR, hK⟩ := hrel
    obtain ⟨I, hI⟩ : ∃ I : Int, I = (k : Int) := ⟨_, rfl⟩
    rw [← hI] at hi
    subst hi
    by_cases hlt : k < n
    · have d1 : decide (I < (n : Int)) = true := by simp; omega
      obtain ⟨zs, hs, hown, hnew, hold⟩ := id hR
      obtain ⟨g, cap, hv⟩ := Joins.ownsRow_form hown (by omega)
      have hA : A1 = some ⟨g, 0, none⟩ ∧ cap = c1 := by injection hv with h1 _ h3; exact ⟨h1, h3.symm⟩
      obtain ⟨rfl, rfl⟩ := hA
      have hl : zs.length = n := by have := hown.1; simpa using this
      have hzk : zs[k]? = some (zs[k]'(by omega)) := List.getElem?_eq_getElem (by omega)
      obtain ⟨B, cB, hz1, hz2⟩ := hold k _ (Nat.le_refl _) hzk
      obtain ⟨y, hye⟩ : ∃ y, y = (zs[k]'(by omega)).2 := ⟨_, rfl⟩
      rw [← hye] at hz1 hz2
      have hyk : ys[k]? = some y := by rw [← hs, List.getElem?_map, hzk, hye]; rfl
      have hcell : wr.cell? ⟨g, k, none⟩ = some (.slice B y.length cB) := own_cell hown (by rw [List.getElem?_map, hzk, ← hz1]; rfl)
      have hfz : ∀ W, wr.grownBy W none → W.frozen? ⟨g, k, none⟩ = false ∧ W.cell? ⟨g, k, none⟩ = some (.slice B y.length cB) := fun W hW =>
        ⟨own_unfrozen (own_kept hown (Kept.of_grown (F := fun _ => False) hW fun _ e => by cases e) (fun _ _ h => h)) k, hW.cell hcell (by simp)⟩
      have hkI : I.toNat = k := by omega
      have hI2 : 0 ≤ I ∧ I < (n : Int) := by omega
      have hyl := HN.out.2 y (List.mem_of_getElem? hyk)
      have hcell' : wr.cell? ⟨g, I.toNat, none⟩ = some (.slice B y.length cB) := by rw [hkI]; exact hcell
      have HB := Lib.hid (And.intro (hz2.grown hK (by simp)) (And.intro hyl (And.intro hyk (And.intro hR (And.intro hK (And.intro hI (And.intro hlt hfz)))))))
      have HkI := Lib.hid hkI
      clear hs hown hnew hold hv hzk hz1 hz2 hye hyk hcell hR hK hI hlt hfz hkI hyl
      go_wp2_with fail
      refine (bclone_is wr B _ cB y rfl HB.out.1 (by have := HB.out.2.1; omega)).mono ?_
      rintro e w2 ⟨B2, c2, rfl, hown2, k2⟩
      obtain ⟨h1, h2, h3, h4, h5, h6, h7, h8⟩ := HB.out
      have hst := each_step h4 h7 h3 h5 hown2 k2
      have q1 := (h8 w2 k2).1
      have q2 := (h8 w2 k2).2
      rw [← HkI.out] at q1 q2 hst
      have HS := Lib.hid hst
      clear h1 h2 h3 h4 h5 h6 h7 h8 hst hown2 k2
      go_wp2_with fail
      go_roundw
      case rel =>
        obtain ⟨h1, h2, h3, h4, h5, h6, h7, h8⟩ := HB.out
        refine ⟨k + 1, by omega, by rw [h6]; rfl, ?_, HS.out.2⟩
        have := HS.out.1
        rw [HkI.out] at this ⊢
        exact this
      case measure => have := HB.out.2.2.2.2.2.1; have := HB.out.2.2.2.2.2.2.1; simp [intOf]; omega
    · have d1 : decide (I < (n : Int)) = false := by simp; omega
      obtain rfl : k = n := by omega
      have HR := Lib.hid (And.intro hR hK)
      clear hR hK hI hlt
      go_wp2_with fail
      go_ret
      obtain ⟨⟨zs, h1, h2, h3, _⟩, hK⟩ := HR.out
      have hl : zs.length = k := by have := h2.1; simpa using this
      refine ⟨A1, c1, rfl, ⟨zs, h1, ⟨h2.1, ?_⟩, row_low h2, fun z hz => ?_⟩, hK⟩
      · rcases h2.2 with h | ⟨g, cap, cur, q1, _, q3⟩
        · exact .inl h
        · exact .inr ⟨g, cap, cur, q1, Nat.zero_le _, q3⟩
      · obtain ⟨j, hj, rfl⟩ := List.getElem_of_mem hz
        exact h3 j _ (by omega) (List.getElem?_eq_getElem hj)
theorem pbytes_is (w : World) (A : Option Addr) (n c : Nat) (ys : List (List UInt8)) (hn : ys.length = n) (hnb : n ≤ 100000) (hsm : ∀ y ∈ ys, y.length ≤ 100000) (hy : LsAt w A ys) :
    Calls Tryd.prog 31 #[.slice A n c] w fun e w' => ∃ (A' : Option Addr) (c' : Nat), e = .returned (.slice A' n c') ∧ RowsN w w' A' n c' ys ∧ w.grownBy w' none := by
  have H := Lib.hid (each_is w A n c ys hn hnb hsm hy)
  clear hn hsm hy
  go_enter Tryd.func31, Tryd.ntmps31
  go_wp2_with fail
  refine H.out.mono ?_
  rintro e w1 ⟨A1, c1, rfl, h1, k1⟩
  have HR := Lib.hid (And.intro h1 k1)
  clear h1 k1
  go_wp2_with fail
  go_ret
  exact ⟨A1, c1, rfl, HR.out.1, HR.out.2⟩
end Go.Proofs.YtnhjokcjdjfijaaDoor
