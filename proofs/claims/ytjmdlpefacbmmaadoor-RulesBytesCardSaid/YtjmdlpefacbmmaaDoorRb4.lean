/-
  RulesBytes: bytes read as a state, by the document.
-/
import Derived.Test.YtjmdlpefacbmmaaDoorRb1
import Derived.Test.YtjmdlpefacbmmaaDoorModel4
import Derived.Test.YtjmdlpefacbmmaaDoorRu5
import Derived.Test.YtjmdlpefacbmmaaDoorRb3
namespace Go.Proofs.YtjmdlpefacbmmaaDoor
open Go.RowKit

structure StR (w0 w : World) (tb sb m : Nat) (A : Option Addr) (c : Nat) (b : List UInt8) (cs : Array Value) (e : Nat) (l : List UInt8) : Prop where
  tgt : Blk w tb 29 (stC 0 0 0 0 0)
  st : Blk w sb 29 cs
  md : MdEnd w m A c b e l
  kept : Kept (fun _ => False) w0 w
  dist : tb ≠ m ∧ sb ≠ m ∧ tb ≠ sb ∧ w0.heap.size ≤ tb ∧ w0.heap.size ≤ sb ∧ w0.heap.size ≤ m
  ab : ∀ ad, A = some ad → b ≠ [] → ad.block < w0.heap.size
section
variable {w0 w w' : World} {tb sb m : Nat} {A : Option Addr} {c : Nat} {b : List UInt8} {cs : Array Value} {e e1 : Nat} {l l1 : List UInt8}
theorem StR.num (h : StR w0 w tb sb m A c b cs e l) (h1 : MdEnd w' m A c b e1 l1) (k : Kept (fun j => j = m) w w') : StR w0 w' tb sb m A c b cs e1 l1 :=
  ⟨h.tgt.kept k h.dist.1, h.st.kept k h.dist.2.1, h1, h.kept.follow k (fun j hj e => by have := h.dist; omega), h.dist, h.ab⟩
theorem StR.store (h : StR w0 w tb sb m A c b cs e l) (i : Nat) (x : Value) : StR w0 (w.setCell ⟨sb, i, none⟩ x) tb sb m A c b (cs.setIfInBounds i x) e l := by
  have k : Kept (fun j => j = sb) w (w.setCell ⟨sb, i, none⟩ x) := (Kept.refl (fun j => j = sb) w).set (p := ⟨sb, i, none⟩) (.inl rfl) _
  obtain ⟨kk, hm, hd⟩ := h.md
  exact ⟨h.tgt.kept k h.dist.2.2.1, h.st.set i x, ⟨kk, hm.kept k (fun e => h.dist.2.1 e.symm) (fun ad e hne hf => by have := h.ab ad e hne; have := h.dist; have e2 : ad.block = sb := hf; omega), hd⟩, h.kept.follow k (fun j hj e => by have := h.dist; omega), h.dist, h.ab⟩
end

set_option maxRecDepth 100000 in
set_option maxHeartbeats 4000000 in
theorem rread_is (w : World) (A : Option Addr) (n c : Nat) (bs : List UInt8) (hn : bs.length = n) (hb : BytesAt w A bs) (hm : n ≤ 1000) (hc : n ≤ c) (n1 e1 : Nat) (l1 : List UInt8) (h1 : pNum 4 0 bs = (n1, e1, l1)) (n2 e2 : Nat) (l2 : List UInt8) (h2 : pNum 6 e1 l1 = (n2, e2, l2)) (n3 e3 : Nat) (l3 : List UInt8) (h3 : pNum 6 e2 l2 = (n3, e3, l3)) (n4 e4 : Nat) (l4 : List UInt8) (h4 : pNum 6 e3 l3 = (n4, e4, l4)) (n5 e5 : Nat) (l5 : List UInt8) (h5 : pNum 1 e4 l4 = (n5, e5, l5)) (d : Nat) (h6 : pDone e5 l5 = d) (V : Array Value) (hV : rdV d n1 n2 n3 n4 n5 = V) (R : Value) (hR : .int .i64 ((rdE d n1 n2 n3 n4 n5 : Nat) : Int) = R) :
    Calls Tryd.prog 20 #[.slice A n c] w fun en w' => en = .returned (.tuple #[.agg V, R]) ∧ w.grownBy w' none := by
  have HN := Lib.hid (And.intro hn (And.intro hb hm))
  have HC := Lib.hid hc
  have H1 := Lib.hid h1
  have H2 := Lib.hid h2
  have H3 := Lib.hid h3
  have H4 := Lib.hid h4
  have H5 := Lib.hid h5
  have H6 := Lib.hid h6
  have HV := Lib.hid hV
  have HR := Lib.hid hR
  clear hn hb hm h1 h2 h3 h4 h5 h6 hV hR hc
  have hT := Blk.new w 29 (stC 0 0 0 0 0)
  have KT : Kept (fun _ => False) w (w.alloc (.cells (stC 0 0 0 0 0) 29)) := (Kept.refl (fun _ => False) w).alloc _
  have zT : (w.alloc (.cells (stC 0 0 0 0 0) 29)).heap.size = w.heap.size + 1 := by simp
  go_enter Tryd.func20, Tryd.ntmps20
  go_wp2_with fail
  have kM : Kept (fun _ => False) (w.alloc (.cells (stC 0 0 0 0 0) 29)) ((w.alloc (.cells (stC 0 0 0 0 0) 29)).alloc (.cells #[.slice A n c, .int .i64 0, .int .i64 0] 71)) := (Kept.refl (fun _ => False) _).alloc _
  have hM := Blk.new (w.alloc (.cells (stC 0 0 0 0 0) 29)) 71 #[.slice A n c, .int .i64 0, .int .i64 0]
  have zM : ((w.alloc (.cells (stC 0 0 0 0 0) 29)).alloc (.cells #[.slice A n c, .int .i64 0, .int .i64 0] 71)).heap.size = w.heap.size + 1 + 1 := by simp
  have hT2 := hT.alloc (.cells #[.slice A n c, .int .i64 0, .int .i64 0] 71)
  have K2 := KT.follow kM (fun _ _ h => h)
  rw [zT] at hM
  have K3 := K2.alloc (.cells (stC 0 0 0 0 0) 29)
  have hS := Blk.new ((w.alloc (.cells (stC 0 0 0 0 0) 29)).alloc (.cells #[.slice A n c, .int .i64 0, .int .i64 0] 71)) 29 (stC 0 0 0 0 0)
  rw [zM] at hS
  have hd : w.heap.size ≠ w.heap.size + 1 ∧ w.heap.size + 1 + 1 ≠ w.heap.size + 1 ∧ w.heap.size ≠ w.heap.size + 1 + 1 ∧ w.heap.size ≤ w.heap.size ∧ w.heap.size ≤ w.heap.size + 1 + 1 ∧ w.heap.size ≤ w.heap.size + 1 := by omega
  have S0 : Hid (StR w (((w.alloc (.cells (stC 0 0 0 0 0) 29)).alloc (.cells #[.slice A n c, .int .i64 0, .int .i64 0] 71)).alloc (.cells (stC 0 0 0 0 0) 29)) w.heap.size (w.heap.size + 1 + 1) (w.heap.size + 1) A c bs (stC 0 0 0 0 0) 0 bs) := Lib.hid ⟨hT2.alloc _, hS, ⟨0, ⟨by rw [HN.out.1]; exact hM.alloc _, HN.out.2.1.kept' K3 (fun _ _ _ h => h), Nat.zero_le _, by rw [HN.out.1]; exact HC.out, fun ad e hne => by have := HN.out.2.1.lt ad e hne; omega⟩, fun _ => rfl⟩, K3, hd, fun ad e hne => HN.out.2.1.lt ad e hne⟩
  clear hT KT zT kM hM zM hT2 K2 hd K3 hS
  generalize ((w.alloc (.cells (stC 0 0 0 0 0) 29)).alloc (.cells #[.slice A n c, .int .i64 0, .int .i64 0] 71)).alloc (.cells (stC 0 0 0 0 0) 29) = v0 at *
  generalize w.heap.size + 1 = m at *
  generalize m + 1 = sb at *
  refine (mnum_is v0 m A c bs 0 bs 4 n1 e1 l1 H1.out (by rw [HN.out.1]; have := HN.out.2.2; omega) S0.out.md).mono ?_
  rintro en u0 ⟨rfl, hr, k⟩
  have T0 := Lib.hid (S0.out.num hr k)
  have fz : u0.frozen? ⟨sb, 0, none⟩ = false := T0.out.st.frozen 0
  have cz : u0.cell? ⟨sb, 0, none⟩ = some (.int .i64 0) := T0.out.st.cell 0
  have S1 : Hid (StR w (u0.setCell ⟨sb, 0, none⟩ (.int .i64 (n1 : Int))) w.heap.size sb m A c bs #[.int .i64 (n1 : Int), .int .i64 0, .int .i64 0, .int .i64 0, .int .i64 0] e1 l1) := Lib.hid (by simpa using T0.out.store 0 (.int .i64 (n1 : Int)))
  clear hr k
  go_wp2_with fail
  clear fz cz
  generalize u0.setCell ⟨sb, 0, none⟩ (.int .i64 (n1 : Int)) = v1 at *
  refine (mnum_is v1 m A c bs e1 l1 6 n2 e2 l2 H2.out (by rw [HN.out.1]; have := HN.out.2.2; omega) S1.out.md).mono ?_
  rintro en u1 ⟨rfl, hr, k⟩
  have T1 := Lib.hid (S1.out.num hr k)
  have fz : u1.frozen? ⟨sb, 1, none⟩ = false := T1.out.st.frozen 1
  have cz : u1.cell? ⟨sb, 1, none⟩ = some (.int .i64 0) := T1.out.st.cell 1
  have S2 : Hid (StR w (u1.setCell ⟨sb, 1, none⟩ (.int .i64 (n2 : Int))) w.heap.size sb m A c bs #[.int .i64 (n1 : Int), .int .i64 (n2 : Int), .int .i64 0, .int .i64 0, .int .i64 0] e2 l2) := Lib.hid (by simpa using T1.out.store 1 (.int .i64 (n2 : Int)))
  clear hr k
  go_wp2_with fail
  clear fz cz
  generalize u1.setCell ⟨sb, 1, none⟩ (.int .i64 (n2 : Int)) = v2 at *
  refine (mnum_is v2 m A c bs e2 l2 6 n3 e3 l3 H3.out (by rw [HN.out.1]; have := HN.out.2.2; omega) S2.out.md).mono ?_
  rintro en u2 ⟨rfl, hr, k⟩
  have T2 := Lib.hid (S2.out.num hr k)
  have fz : u2.frozen? ⟨sb, 2, none⟩ = false := T2.out.st.frozen 2
  have cz : u2.cell? ⟨sb, 2, none⟩ = some (.int .i64 0) := T2.out.st.cell 2
  have S3 : Hid (StR w (u2.setCell ⟨sb, 2, none⟩ (.int .i64 (n3 : Int))) w.heap.size sb m A c bs #[.int .i64 (n1 : Int), .int .i64 (n2 : Int), .int .i64 (n3 : Int), .int .i64 0, .int .i64 0] e3 l3) := Lib.hid (by simpa using T2.out.store 2 (.int .i64 (n3 : Int)))
  clear hr k
  go_wp2_with fail
  clear fz cz
  generalize u2.setCell ⟨sb, 2, none⟩ (.int .i64 (n3 : Int)) = v3 at *
  refine (mnum_is v3 m A c bs e3 l3 6 n4 e4 l4 H4.out (by rw [HN.out.1]; have := HN.out.2.2; omega) S3.out.md).mono ?_
  rintro en u3 ⟨rfl, hr, k⟩
  have T3 := Lib.hid (S3.out.num hr k)
  have fz : u3.frozen? ⟨sb, 3, none⟩ = false := T3.out.st.frozen 3
  have cz : u3.cell? ⟨sb, 3, none⟩ = some (.int .i64 0) := T3.out.st.cell 3
  have S4 : Hid (StR w (u3.setCell ⟨sb, 3, none⟩ (.int .i64 (n4 : Int))) w.heap.size sb m A c bs #[.int .i64 (n1 : Int), .int .i64 (n2 : Int), .int .i64 (n3 : Int), .int .i64 (n4 : Int), .int .i64 0] e4 l4) := Lib.hid (by simpa using T3.out.store 3 (.int .i64 (n4 : Int)))
  clear hr k
  go_wp2_with fail
  clear fz cz
  generalize u3.setCell ⟨sb, 3, none⟩ (.int .i64 (n4 : Int)) = v4 at *
  refine (mnum_is v4 m A c bs e4 l4 1 n5 e5 l5 H5.out (by rw [HN.out.1]; have := HN.out.2.2; omega) S4.out.md).mono ?_
  rintro en u4 ⟨rfl, hr, k⟩
  have T4 := Lib.hid (S4.out.num hr k)
  have fz : u4.frozen? ⟨sb, 4, none⟩ = false := T4.out.st.frozen 4
  have cz : u4.cell? ⟨sb, 4, none⟩ = some (.int .i64 0) := T4.out.st.cell 4
  have S5 : Hid (StR w (u4.setCell ⟨sb, 4, none⟩ (.int .i64 (n5 : Int))) w.heap.size sb m A c bs #[.int .i64 (n1 : Int), .int .i64 (n2 : Int), .int .i64 (n3 : Int), .int .i64 (n4 : Int), .int .i64 (n5 : Int)] e5 l5) := Lib.hid (by simpa using T4.out.store 4 (.int .i64 (n5 : Int)))
  clear hr k
  go_wp2_with fail
  clear fz cz
  generalize u4.setCell ⟨sb, 4, none⟩ (.int .i64 (n5 : Int)) = v5 at *
  obtain ⟨kk, hmd, hdd⟩ := S5.out.md
  have hd2 : pDone e5 (bs.drop kk) = d := by
    rw [← H6.out]
    by_cases h0 : e5 = 0
    · rw [hdd h0]
    · unfold pDone; rw [if_neg (fun h => h0 h.1), if_neg (fun h => h0 h.1)]
  have HD2 := Lib.hid hd2
  have HMD := Lib.hid hmd
  clear hd2 hmd hdd
  refine (mdone v5 m A c bs kk e5 d HD2.out HMD.out (by rw [HN.out.1]; have := HN.out.2.2; omega)).mono ?_
  rintro en w6 ⟨rfl, k6⟩
  have K6 := Lib.hid k6
  clear k6
  by_cases hd0 : d = 0
  · subst hd0
    have hz : (((0 : Nat) : Int) != 0) = false := rfl
    skip
    have a0 := (S5.out.st.kept K6.out (fun h => h)).cell 0
    have a1 := (S5.out.st.kept K6.out (fun h => h)).cell 1
    have a2 := (S5.out.st.kept K6.out (fun h => h)).cell 2
    have a3 := (S5.out.st.kept K6.out (fun h => h)).cell 3
    have a4 := (S5.out.st.kept K6.out (fun h => h)).cell 4
    simp at a0 a1 a2 a3 a4
    go_wp2_with fail
    refine (refRight_is _ _ _ _ _ _).mono ?_
    rintro en w7 ⟨rfl, k7⟩
    have HT := Lib.hid ((S5.out.tgt.kept K6.out (fun h => h)).grown k7 (by simp))
    have HS := Lib.hid ((S5.out.st.kept K6.out (fun h => h)).grown k7 (by simp))
    have HK := Lib.hid ((S5.out.kept.follow K6.out (fun _ _ h => h)).follow (Kept.of_grown (F := fun _ => False) k7 (fun _ e => by cases e)) (fun _ _ h => h))
    clear a0 a1 a2 a3 a4 k7
    have z0 : w7.frozen? ⟨w.heap.size, 0, none⟩ = false := HT.out.frozen 0
    have z1 : w7.frozen? ⟨w.heap.size, 1, none⟩ = false := HT.out.frozen 1
    have z2 : w7.frozen? ⟨w.heap.size, 2, none⟩ = false := HT.out.frozen 2
    have z3 : w7.frozen? ⟨w.heap.size, 3, none⟩ = false := HT.out.frozen 3
    have z4 : w7.frozen? ⟨w.heap.size, 4, none⟩ = false := HT.out.frozen 4
    have y0 : w7.cell? ⟨w.heap.size, 0, none⟩ = some (.int .i64 0) := HT.out.cell 0
    have y1 : w7.cell? ⟨w.heap.size, 1, none⟩ = some (.int .i64 0) := HT.out.cell 1
    have y2 : w7.cell? ⟨w.heap.size, 2, none⟩ = some (.int .i64 0) := HT.out.cell 2
    have y3 : w7.cell? ⟨w.heap.size, 3, none⟩ = some (.int .i64 0) := HT.out.cell 3
    have y4 : w7.cell? ⟨w.heap.size, 4, none⟩ = some (.int .i64 0) := HT.out.cell 4
    cases hright : rightB (n1 : Int) (n2 : Int) (n3 : Int) (n4 : Int) (n5 : Int)
    · have HQ := Lib.hid (show rdE 0 n1 n2 n3 n4 n5 = 4 by simp [rdE, hright])
      clear hright
      go_wp2_with fail
      refine bodyPost_ret (results_cell_tmp rfl _ _ _ ⟨w.heap.size, 0, none⟩ _ rfl (loadR5 (HT.out.set5 _ _ _ _ _))) rfl ?_
      refine ⟨?_, (HK.out.row5 (.inr (Nat.le_refl _)) _ _ _ _ _).none_grown⟩
      rw [← HV.out, ← HR.out, rdV, HQ.out, if_neg (by omega)]; rfl
    · have HQ := Lib.hid (show rdE 0 n1 n2 n3 n4 n5 = 0 by simp [rdE, hright])
      have a0 := HS.out.cell 0
      have a1 := HS.out.cell 1
      have a2 := HS.out.cell 2
      have a3 := HS.out.cell 3
      have a4 := HS.out.cell 4
      simp at a0 a1 a2 a3 a4
      clear hright
      go_wp2_with fail
      refine bodyPost_ret (results_cell_tmp rfl _ _ _ ⟨w.heap.size, 0, none⟩ _ rfl (loadR5 (HT.out.set5 _ _ _ _ _))) rfl ?_
      refine ⟨?_, (HK.out.row5 (.inr (Nat.le_refl _)) _ _ _ _ _).none_grown⟩
      rw [← HV.out, ← HR.out, rdV, HQ.out, if_pos rfl]; rfl
  · have hz : ((d : Int) != 0) = true := by simp; omega
    have HT := Lib.hid (S5.out.tgt.kept K6.out (fun h => h))
    have HK := Lib.hid (S5.out.kept.follow K6.out (fun _ _ h => h))
    have HQ := Lib.hid (show rdE d n1 n2 n3 n4 n5 = d ∧ d ≠ 0 by simp [rdE, hd0])
    clear hd0
    have z0 : w6.frozen? ⟨w.heap.size, 0, none⟩ = false := HT.out.frozen 0
    have z1 : w6.frozen? ⟨w.heap.size, 1, none⟩ = false := HT.out.frozen 1
    have z2 : w6.frozen? ⟨w.heap.size, 2, none⟩ = false := HT.out.frozen 2
    have z3 : w6.frozen? ⟨w.heap.size, 3, none⟩ = false := HT.out.frozen 3
    have z4 : w6.frozen? ⟨w.heap.size, 4, none⟩ = false := HT.out.frozen 4
    have y0 : w6.cell? ⟨w.heap.size, 0, none⟩ = some (.int .i64 0) := HT.out.cell 0
    have y1 : w6.cell? ⟨w.heap.size, 1, none⟩ = some (.int .i64 0) := HT.out.cell 1
    have y2 : w6.cell? ⟨w.heap.size, 2, none⟩ = some (.int .i64 0) := HT.out.cell 2
    have y3 : w6.cell? ⟨w.heap.size, 3, none⟩ = some (.int .i64 0) := HT.out.cell 3
    have y4 : w6.cell? ⟨w.heap.size, 4, none⟩ = some (.int .i64 0) := HT.out.cell 4
    go_wp2_with fail
    refine bodyPost_ret (results_cell_tmp rfl _ _ _ ⟨w.heap.size, 0, none⟩ _ rfl (loadR5 (HT.out.set5 _ _ _ _ _))) rfl ?_
    refine ⟨?_, (HK.out.row5 (.inr (Nat.le_refl _)) _ _ _ _ _).none_grown⟩
    rw [← HV.out, ← HR.out, rdV, HQ.out.1, if_neg HQ.out.2]; rfl
end Go.Proofs.YtjmdlpefacbmmaaDoor
