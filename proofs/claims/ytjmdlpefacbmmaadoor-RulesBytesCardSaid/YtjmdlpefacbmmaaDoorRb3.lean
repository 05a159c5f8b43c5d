/-
  RulesBytes: bytes read as a state, by the program.
-/
import Derived.Test.YtjmdlpefacbmmaaDoorRb1
import Derived.Test.YtjmdlpefacbmmaaDoorModel4
import Derived.Test.YtjmdlpefacbmmaaDoorRuAlive
namespace Go.Proofs.YtjmdlpefacbmmaaDoor
open Go.RowKit

/-- What reading a state from bytes answers: the error's number. -/
def rdE (d : Nat) (n1 n2 n3 n4 n5 : Nat) : Nat := if d ≠ 0 then d else if rightB n1 n2 n3 n4 n5 = true then 0 else 4
/-- .. and the state. -/
def rdV (d : Nat) (n1 n2 n3 n4 n5 : Nat) : Array Value := if rdE d n1 n2 n3 n4 n5 = 0 then stC n1 n2 n3 n4 n5 else stC 0 0 0 0 0
theorem ErrEnv.keptL {w w' : World} {F : Nat → Prop} {B : Nat} {E : Nat → Addr} (h : ErrEnv w B E) (hk : Kept F w w') (hB : B ≤ w.heap.size) (hF : ∀ k, F k → B ≤ k) : ErrEnv w' B E := h.below (hk.below hB hF) (Nat.le_refl _)
theorem Kept.row5 {w0 w : World} {F : Nat → Prop} (h : Kept F w0 w) {g : Nat} (hg : F g ∨ w0.heap.size ≤ g) (x0 x1 x2 x3 x4 : Value) : Kept F w0 (((((w.setCell ⟨g, 0, none⟩ x0).setCell ⟨g, 1, none⟩ x1).setCell ⟨g, 2, none⟩ x2).setCell ⟨g, 3, none⟩ x3).setCell ⟨g, 4, none⟩ x4) :=
  ((((h.set (p := ⟨g, 0, none⟩) hg _).set (p := ⟨g, 1, none⟩) hg _).set (p := ⟨g, 2, none⟩) hg _).set (p := ⟨g, 3, none⟩) hg _).set (p := ⟨g, 4, none⟩) hg _
structure StP (w0 w : World) (tb sb g s : Nat) (E : Nat → Addr) (cs : Array Value) (e : Nat) (l : List UInt8) : Prop where
  tgt : Blk w tb 23 (stC 0 0 0 0 0)
  st : Blk w sb 23 cs
  rd : RdIs w g s (evOf E e) l
  kept : Kept (fun _ => False) w0 w
  dist : tb ≠ g ∧ sb ≠ g ∧ tb ≠ sb ∧ s ≠ sb ∧ w0.heap.size ≤ tb ∧ w0.heap.size ≤ sb ∧ w0.heap.size ≤ g
section
variable {w0 w w' : World} {tb sb g s : Nat} {E : Nat → Addr} {cs : Array Value} {e e1 : Nat} {l l1 : List UInt8}
theorem StP.num (h : StP w0 w tb sb g s E cs e l) (h1 : RdIs w' g s (evOf E e1) l1) (k : w.grownBy w' (some g)) : StP w0 w' tb sb g s E cs e1 l1 :=
  ⟨h.tgt.grown k (fun e => h.dist.1 (Option.some.inj e)), h.st.grown k (fun e => h.dist.2.1 (Option.some.inj e)), h1, h.kept.follow (Kept.of_grown (F := fun j => j = g) k (fun j e => (Option.some.inj e).symm)) (fun j hj e => by have := h.dist; omega), h.dist⟩
theorem StP.store (h : StP w0 w tb sb g s E cs e l) (i : Nat) (x : Value) : StP w0 (w.setCell ⟨sb, i, none⟩ x) tb sb g s E (cs.setIfInBounds i x) e l := by
  have k : Kept (fun j => j = sb) w (w.setCell ⟨sb, i, none⟩ x) := (Kept.refl (fun j => j = sb) w).set (p := ⟨sb, i, none⟩) (.inl rfl) _
  exact ⟨h.tgt.kept k h.dist.2.2.1, h.st.set i x, h.rd.kept k (fun e => h.dist.2.1 e.symm) h.dist.2.2.2.1, h.kept.follow k (fun j hj e => by have := h.dist; omega), h.dist⟩
end

set_option maxRecDepth 100000 in
set_option maxHeartbeats 4000000 in
theorem read_is (w : World) (B : Nat) (hB : B ≤ w.heap.size) (E : Nat → Addr) (he : ErrEnv w B E) (A : Option Addr) (n c : Nat) (bs : List UInt8) (hn : bs.length = n) (hb : BytesAt w A bs) (hm : n ≤ 1000) (n1 e1 : Nat) (l1 : List UInt8) (h1 : pNum 4 0 bs = (n1, e1, l1)) (n2 e2 : Nat) (l2 : List UInt8) (h2 : pNum 6 e1 l1 = (n2, e2, l2)) (n3 e3 : Nat) (l3 : List UInt8) (h3 : pNum 6 e2 l2 = (n3, e3, l3)) (n4 e4 : Nat) (l4 : List UInt8) (h4 : pNum 6 e3 l3 = (n4, e4, l4)) (n5 e5 : Nat) (l5 : List UInt8) (h5 : pNum 1 e4 l4 = (n5, e5, l5)) (d : Nat) (h6 : pDone e5 l5 = d) (V : Array Value) (hV : rdV d n1 n2 n3 n4 n5 = V) (R : Value) (hR : evOf E (rdE d n1 n2 n3 n4 n5) = R) :
    Calls Tryd.prog 18 #[.slice A n c] w fun en w' => en = .returned (.tuple #[.agg V, R]) ∧ w.grownBy w' none := by
  have HN := Lib.hid (And.intro hn (And.intro hb hm))
  have HE := Lib.hid he
  have H1 := Lib.hid h1
  have H2 := Lib.hid h2
  have H3 := Lib.hid h3
  have H4 := Lib.hid h4
  have H5 := Lib.hid h5
  have H6 := Lib.hid h6
  have HV := Lib.hid hV
  have HR := Lib.hid hR
  clear hn hb hm h1 h2 h3 h4 h5 h6 hV hR he
  have hT := Blk.new w 23 (stC 0 0 0 0 0)
  have KT : Kept (fun _ => False) w (w.alloc (.cells (stC 0 0 0 0 0) 23)) := (Kept.refl (fun _ => False) w).alloc _
  have zT : (w.alloc (.cells (stC 0 0 0 0 0) 23)).heap.size = w.heap.size + 1 := by simp
  go_enter Tryd.func18, Tryd.ntmps18
  go_wp2_with fail
  refine (reader_new _ A n c bs HN.out.1 (HN.out.2.1.kept' KT (fun _ _ _ h => h)) (by have := HN.out.2.2; omega)).mono ?_
  rintro en w1 ⟨g, s, rfl, hr1, hg1, hg2, hs1, hs2, k1⟩
  have hT1 := hT.grown k1 (by simp)
  have K1 := KT.follow (Kept.of_grown (F := fun _ => False) k1 (fun _ e => by cases e)) (fun _ _ h => h)
  have kS : Kept (fun _ => False) w1 (w1.alloc (.cells (stC 0 0 0 0 0) 23)) := (Kept.refl (fun _ => False) w1).alloc _
  have hd : w.heap.size ≠ g ∧ w1.heap.size ≠ g ∧ w.heap.size ≠ w1.heap.size ∧ s ≠ w1.heap.size ∧ w.heap.size ≤ w.heap.size ∧ w.heap.size ≤ w1.heap.size ∧ w.heap.size ≤ g := by omega
  have S0 : Hid (StP w (w1.alloc (.cells (stC 0 0 0 0 0) 23)) w.heap.size w1.heap.size g s E (stC 0 0 0 0 0) 0 bs) := Lib.hid ⟨hT1.alloc _, Blk.new w1 23 (stC 0 0 0 0 0), hr1.kept kS (fun h => h) (fun h => h), K1.follow kS (fun _ _ h => h), hd⟩
  have hgB : B ≤ g := Nat.le_trans hB hd.2.2.2.2.2.2
  clear hT KT zT hr1 hg1 hg2 hs1 hs2 k1 hT1 K1 kS hd
  go_wp2_with fail
  generalize w1.alloc (.cells (stC 0 0 0 0 0) 23) = v0 at *
  generalize w1.heap.size = sb at *
  refine (rnum_is v0 B g s E 0 bs 4 n1 e1 l1 H1.out S0.out.rd ((HE.out.vars [0, 1] (by decide)).kept S0.out.kept (fun _ h => h.elim)) hgB).mono ?_
  rintro en u0 ⟨rfl, hr, k⟩
  have T0 := Lib.hid (S0.out.num hr k)
  have fz : u0.frozen? ⟨sb, 0, none⟩ = false := T0.out.st.frozen 0
  have cz : u0.cell? ⟨sb, 0, none⟩ = some (.int .i64 0) := T0.out.st.cell 0
  have S1 : Hid (StP w (u0.setCell ⟨sb, 0, none⟩ (.int .i64 (n1 : Int))) w.heap.size sb g s E #[.int .i64 (n1 : Int), .int .i64 0, .int .i64 0, .int .i64 0, .int .i64 0] e1 l1) := Lib.hid (by simpa using T0.out.store 0 (.int .i64 (n1 : Int)))
  clear hr k
  go_wp2_with fail
  clear fz cz
  generalize u0.setCell ⟨sb, 0, none⟩ (.int .i64 (n1 : Int)) = v1 at *
  refine (rnum_is v1 B g s E e1 l1 6 n2 e2 l2 H2.out S1.out.rd ((HE.out.vars [0, 1] (by decide)).kept S1.out.kept (fun _ h => h.elim)) hgB).mono ?_
  rintro en u1 ⟨rfl, hr, k⟩
  have T1 := Lib.hid (S1.out.num hr k)
  have fz : u1.frozen? ⟨sb, 1, none⟩ = false := T1.out.st.frozen 1
  have cz : u1.cell? ⟨sb, 1, none⟩ = some (.int .i64 0) := T1.out.st.cell 1
  have S2 : Hid (StP w (u1.setCell ⟨sb, 1, none⟩ (.int .i64 (n2 : Int))) w.heap.size sb g s E #[.int .i64 (n1 : Int), .int .i64 (n2 : Int), .int .i64 0, .int .i64 0, .int .i64 0] e2 l2) := Lib.hid (by simpa using T1.out.store 1 (.int .i64 (n2 : Int)))
  clear hr k
  go_wp2_with fail
  clear fz cz
  generalize u1.setCell ⟨sb, 1, none⟩ (.int .i64 (n2 : Int)) = v2 at *
  refine (rnum_is v2 B g s E e2 l2 6 n3 e3 l3 H3.out S2.out.rd ((HE.out.vars [0, 1] (by decide)).kept S2.out.kept (fun _ h => h.elim)) hgB).mono ?_
  rintro en u2 ⟨rfl, hr, k⟩
  have T2 := Lib.hid (S2.out.num hr k)
  have fz : u2.frozen? ⟨sb, 2, none⟩ = false := T2.out.st.frozen 2
  have cz : u2.cell? ⟨sb, 2, none⟩ = some (.int .i64 0) := T2.out.st.cell 2
  have S3 : Hid (StP w (u2.setCell ⟨sb, 2, none⟩ (.int .i64 (n3 : Int))) w.heap.size sb g s E #[.int .i64 (n1 : Int), .int .i64 (n2 : Int), .int .i64 (n3 : Int), .int .i64 0, .int .i64 0] e3 l3) := Lib.hid (by simpa using T2.out.store 2 (.int .i64 (n3 : Int)))
  clear hr k
  go_wp2_with fail
  clear fz cz
  generalize u2.setCell ⟨sb, 2, none⟩ (.int .i64 (n3 : Int)) = v3 at *
  refine (rnum_is v3 B g s E e3 l3 6 n4 e4 l4 H4.out S3.out.rd ((HE.out.vars [0, 1] (by decide)).kept S3.out.kept (fun _ h => h.elim)) hgB).mono ?_
  rintro en u3 ⟨rfl, hr, k⟩
  have T3 := Lib.hid (S3.out.num hr k)
  have fz : u3.frozen? ⟨sb, 3, none⟩ = false := T3.out.st.frozen 3
  have cz : u3.cell? ⟨sb, 3, none⟩ = some (.int .i64 0) := T3.out.st.cell 3
  have S4 : Hid (StP w (u3.setCell ⟨sb, 3, none⟩ (.int .i64 (n4 : Int))) w.heap.size sb g s E #[.int .i64 (n1 : Int), .int .i64 (n2 : Int), .int .i64 (n3 : Int), .int .i64 (n4 : Int), .int .i64 0] e4 l4) := Lib.hid (by simpa using T3.out.store 3 (.int .i64 (n4 : Int)))
  clear hr k
  go_wp2_with fail
  clear fz cz
  generalize u3.setCell ⟨sb, 3, none⟩ (.int .i64 (n4 : Int)) = v4 at *
  refine (rnum_is v4 B g s E e4 l4 1 n5 e5 l5 H5.out S4.out.rd ((HE.out.vars [0, 1] (by decide)).kept S4.out.kept (fun _ h => h.elim)) hgB).mono ?_
  rintro en u4 ⟨rfl, hr, k⟩
  have T4 := Lib.hid (S4.out.num hr k)
  have fz : u4.frozen? ⟨sb, 4, none⟩ = false := T4.out.st.frozen 4
  have cz : u4.cell? ⟨sb, 4, none⟩ = some (.int .i64 0) := T4.out.st.cell 4
  have S5 : Hid (StP w (u4.setCell ⟨sb, 4, none⟩ (.int .i64 (n5 : Int))) w.heap.size sb g s E #[.int .i64 (n1 : Int), .int .i64 (n2 : Int), .int .i64 (n3 : Int), .int .i64 (n4 : Int), .int .i64 (n5 : Int)] e5 l5) := Lib.hid (by simpa using T4.out.store 4 (.int .i64 (n5 : Int)))
  clear hr k
  go_wp2_with fail
  clear fz cz
  generalize u4.setCell ⟨sb, 4, none⟩ (.int .i64 (n5 : Int)) = v5 at *
  refine (rdone_is v5 B g s E e5 l5 d H6.out S5.out.rd ((HE.out.vars [2] (by decide)).kept S5.out.kept (fun _ h => h.elim))).mono ?_
  rintro en w6 ⟨rfl, hw6⟩
  subst hw6
  by_cases hd0 : d = 0
  · subst hd0
    have hnil : evOf E 0 = .nilIface := rfl
    rw [hnil]
    have a0 := S5.out.st.cell 0
    have a1 := S5.out.st.cell 1
    have a2 := S5.out.st.cell 2
    have a3 := S5.out.st.cell 3
    have a4 := S5.out.st.cell 4
    simp at a0 a1 a2 a3 a4
    go_wp2_with fail
    refine (right_is _ _ _ _ _ _).mono ?_
    rintro en w7 ⟨rfl, k7⟩
    have HT := Lib.hid (S5.out.tgt.grown k7 (by simp))
    have HS := Lib.hid (S5.out.st.grown k7 (by simp))
    have HK := Lib.hid (S5.out.kept.follow (Kept.of_grown (F := fun _ => False) k7 (fun _ e => by cases e)) (fun _ _ h => h))
    clear a0 a1 a2 a3 a4 k7
    have z0 : w7.frozen? ⟨w.heap.size, 0, none⟩ = false := HT.out.frozen 0
    have z1 : w7.frozen? ⟨w.heap.size, 1, none⟩ = false := HT.out.frozen 1
    have z2 : w7.frozen? ⟨w.heap.size, 2, none⟩ = false := HT.out.frozen 2
    have z3 : w7.frozen? ⟨w.heap.size, 3, none⟩ = false := HT.out.frozen 3
    have z4 : w7.frozen? ⟨w.heap.size, 4, none⟩ = false := HT.out.frozen 4
    have y0 : w7.cell? ⟨w.heap.size, 0, none⟩ = some (.int .i64 0) := HT.out.cell 0
    have y1 : w7.cell? ⟨w.heap.size, 1, none⟩ = some (.int .i64 0) := HT.out.cell 1
    have y2 : w7.cell? ⟨w.heap.size, 2, none⟩ = some (.int .i64 0) := HT.out.cell 2
    have y3 : w7.cell? ⟨w.heap.size, 3, none⟩ = some (.int .i64 0) := HT.out.cell 3
    have y4 : w7.cell? ⟨w.heap.size, 4, none⟩ = some (.int .i64 0) := HT.out.cell 4
    cases hright : rightB (n1 : Int) (n2 : Int) (n3 : Int) (n4 : Int) (n5 : Int)
    · have HQ := Lib.hid (show rdE 0 n1 n2 n3 n4 n5 = 4 by simp [rdE, hright])
      clear hright
      have g3 : w7.cell? ⟨0, 0, none⟩ = some (errV (E 3)) := (HE.out.keptL HK.out hB (fun _ h => h.elim)).form
      have hfar : ¬ (0 = w.heap.size) := by have h := (HE.out.var 3 (by omega)).2; have h2 : 0 < B := h; omega
      have hfar2 : ¬ (w.heap.size = 0) := fun h => hfar h.symm
      go_wp2_with fail
      have HTd := Lib.hid (HT.out.drew)
      go_region
      all_goals
        go_wp2_with fail
        refine bodyPost_ret (results_cell_tmp rfl _ _ _ ⟨w.heap.size, 0, none⟩ _ rfl (load5 (HTd.out.set5 _ _ _ _ _))) rfl ?_
        refine ⟨?_, (HK.out.drew.row5 (.inr (Nat.le_refl _)) _ _ _ _ _).none_grown⟩
        rw [← HV.out, ← HR.out, rdV, HQ.out, if_neg (by omega)]; rfl
    · have HQ := Lib.hid (show rdE 0 n1 n2 n3 n4 n5 = 0 by simp [rdE, hright])
      have a0 := HS.out.cell 0
      have a1 := HS.out.cell 1
      have a2 := HS.out.cell 2
      have a3 := HS.out.cell 3
      have a4 := HS.out.cell 4
      simp at a0 a1 a2 a3 a4
      clear hright
      go_wp2_with fail
      refine bodyPost_ret (results_cell_tmp rfl _ _ _ ⟨w.heap.size, 0, none⟩ _ rfl (load5 (HT.out.set5 _ _ _ _ _))) rfl ?_
      refine ⟨?_, (HK.out.row5 (.inr (Nat.le_refl _)) _ _ _ _ _).none_grown⟩
      rw [← HV.out, ← HR.out, rdV, HQ.out, if_pos rfl]; rfl
  · obtain ⟨k, rfl⟩ : ∃ k, d = k + 1 := ⟨d - 1, by omega⟩
    have hev : evOf E (k + 1) = errV (E k) := rfl
    rw [hev]
    have HT := Lib.hid S5.out.tgt
    have HK := Lib.hid S5.out.kept
    have HQ := Lib.hid (show rdE (k + 1) n1 n2 n3 n4 n5 = k + 1 by simp [rdE])
    clear hd0 hev
    have z0 : w6.frozen? ⟨w.heap.size, 0, none⟩ = false := HT.out.frozen 0
    have z1 : w6.frozen? ⟨w.heap.size, 1, none⟩ = false := HT.out.frozen 1
    have z2 : w6.frozen? ⟨w.heap.size, 2, none⟩ = false := HT.out.frozen 2
    have z3 : w6.frozen? ⟨w.heap.size, 3, none⟩ = false := HT.out.frozen 3
    have z4 : w6.frozen? ⟨w.heap.size, 4, none⟩ = false := HT.out.frozen 4
    have y0 : w6.cell? ⟨w.heap.size, 0, none⟩ = some (.int .i64 0) := HT.out.cell 0
    have y1 : w6.cell? ⟨w.heap.size, 1, none⟩ = some (.int .i64 0) := HT.out.cell 1
    have y2 : w6.cell? ⟨w.heap.size, 2, none⟩ = some (.int .i64 0) := HT.out.cell 2
    have y3 : w6.cell? ⟨w.heap.size, 3, none⟩ = some (.int .i64 0) := HT.out.cell 3
    have y4 : w6.cell? ⟨w.heap.size, 4, none⟩ = some (.int .i64 0) := HT.out.cell 4
    go_wp2_with fail
    refine bodyPost_ret (results_cell_tmp rfl _ _ _ ⟨w.heap.size, 0, none⟩ _ rfl (load5 (HT.out.set5 _ _ _ _ _))) rfl ?_
    refine ⟨?_, (HK.out.row5 (.inr (Nat.le_refl _)) _ _ _ _ _).none_grown⟩
    rw [← HV.out, ← HR.out, rdV, HQ.out, if_neg (by omega)]; rfl
end Go.Proofs.YtjmdlpefacbmmaaDoor
