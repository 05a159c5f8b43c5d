/-
  Guard: the law's ask.
-/
import Derived.Test.YthkjlgjbjjjohaaGreatDoorGdG3
namespace Go.Proofs.YthkjlgjbjjjohaaGreatDoor
open Go.RowKit Go.Maps

def askR (st : St) (x : Stp) : St := if x.k = 1 then voteR st x else if x.k = 2 then lateR st x else if x.k = 3 then propR st x else enterR st x
def askK (st : St) (x : Stp) : Nat := if x.k = 1 then voteE st.e st.v st.l st.p st.f x.ep x.r x.q else if x.k = 2 then lateK st x else if x.k = 3 then propE st.e st.v st.l st.p st.f x.ep x.r else enterE st.e st.v st.l st.p st.f x.ep
def askM (x : Stp) (d : List Int) : List Int := if x.k = 1 then forV x.ep x.r d else if x.k = 2 then forL x.ep x.r x.q else forP d
/-- What a step of the law answers. -/
def AskPost (w0 w w' : World) (e : Ending) (P : GdP) (base : Int) (seed : List Int) (z : DkS) (cn : Nat) (rc : List UInt8) (st : St) (x : Stp) (d : List Int) (E : Nat → Addr) : Prop :=
  ((1 ≤ x.k ∧ x.k ≤ 3) ∧ StepPost w0 w w' e P base seed z cn rc st (askR st x) (askK st x) (askM x d) E) ∨
  (¬ (1 ≤ x.k ∧ x.k ≤ 3) ∧ ∃ ev, e = .returned (.tuple #[.agg sigZ, ev]) ∧ EnterPost w0 w w' (.returned ev) P base seed z cn rc st (askR st x) (askK st x) E)
def askC (x : Stp) (dd : Array Value) : Array Value := #[.int .i64 x.k, .int .i64 x.ep, .int .i64 x.r, .int .i64 x.q, .int .i64 x.g] ++ dd
theorem askC_size (x : Stp) {dd : Array Value} (h : dd.size = 16) : (askC x dd).size = 21 := by simp [askC, h]
theorem askC_list (x : Stp) (dd : Array Value) : (askC x dd).toList = [.int .i64 x.k, .int .i64 x.ep, .int .i64 x.r, .int .i64 x.q, .int .i64 x.g] ++ dd.toList := by simp [askC]
theorem ask_cells {w : World} {q : Nat} {t : TypeId} {x : Stp} {dd : Array Value} (h : Blk w q t (askC x dd)) :
    w.cell? ⟨q, 0, none⟩ = some (.int .i64 x.k) ∧ w.cell? ⟨q, 1, none⟩ = some (.int .i64 x.ep) ∧ w.cell? ⟨q, 2, none⟩ = some (.int .i64 x.r) ∧ w.cell? ⟨q, 3, none⟩ = some (.int .i64 x.q) ∧ w.cell? ⟨q, 4, none⟩ = some (.int .i64 x.g) ∧ w.rangeAt q 5 dd.toList := by
  have r := range_of_blk h
  rw [askC_list] at r
  refine ⟨by have := r 0 _ rfl; simpa using this, by have := r 1 _ rfl; simpa using this, by have := r 2 _ rfl; simpa using this, by have := r 3 _ rfl; simpa using this, by have := r 4 _ rfl; simpa using this, fun j v hv => ?_⟩
  have := r (5 + j) v (by rw [List.getElem?_append_right (by simp), show 5 + j - [Value.int .i64 x.k, .int .i64 x.ep, .int .i64 x.r, .int .i64 x.q, .int .i64 x.g].length = j by simp]; exact hv)
  rwa [Nat.zero_add] at this
section
variable {w0 w w1 w' : World} {e : Ending} {P : GdP} {base : Int} {seed : List Int} {z : DkS} {cn : Nat} {rc : List UInt8} {st t : St} {k : Nat} {m : List Int} {E : Nat → Addr}
theorem StepPost.form (h : StepPost w0 w w' e P base seed z cn rc st t k m E) : ∃ sg ev, e = .returned (.tuple #[.agg sg, ev]) ∧ sg.size = 3 ∧ (sg.all fun v => v.oneCell') = true := by
  rcases h with ⟨_, rfl, _⟩ | ⟨_, i, _, _, hs⟩
  · exact ⟨_, _, rfl, rfl, sigZ_one⟩
  · exact hs.form
theorem StepPost.kept (h : StepPost w0 w w' e P base seed z cn rc st t k m E) : Kept P.F w w' := by
  rcases h with ⟨_, _, _, hg⟩ | ⟨_, i, _, _, hs⟩
  · exact Kept.of_grown hg fun _ e => by cases e
  · exact hs.2.1
theorem StepPost.store (h : StepPost w0 w1 w' e P base seed z cn rc st t k m E) {x : Nat} (sv : Array Value) (h1 : x < w1.heap.size) (h0 : w.heap.size ≤ x) (hg : w.grownBy w1 none) (hF : ¬ P.F x ∧ x ≠ P.kb ∧ x ≠ P.lb) (hx : w0.heap.size ≤ x) (hf : SlFar w1 P.s x) :
    StepPost w0 w (w'.setRow x sv) e P base seed z cn rc st t k m E := by
  rcases h with ⟨hk, he, hi, g⟩ | ⟨hk, i, hi, h32, hs⟩
  · exact .inl ⟨hk, he, hi.beside (row_kept sv) hF hx (hf.kept (Kept.of_grown (F := fun _ => False) g fun _ e => by cases e) (fun h => h)), grown_row (grown_trans hg g) (.inl h0) sv⟩
  · exact .inr ⟨hk, i, hi, h32, hs.store sv h1 h0 hg hF hx hf⟩
theorem EnterPost.kept (h : EnterPost w0 w w' e P base seed z cn rc st t k E) : Kept P.F w w' := by
  rcases h with ⟨_, _, _, hg⟩ | ⟨_, _, hs, _⟩
  · exact Kept.of_grown hg fun _ e => by cases e
  · exact hs
theorem EnterPost.form (h : EnterPost w0 w w' e P base seed z cn rc st t k E) : ∃ ev, e = .returned ev := by
  rcases h with ⟨_, rfl, _⟩ | ⟨_, ⟨_, rfl, _⟩ | ⟨_, rfl, _⟩, _⟩
  · exact ⟨_, rfl⟩
  · exact ⟨_, rfl⟩
  · exact ⟨_, rfl⟩
theorem EnterPost.store (h : EnterPost w0 w1 w' e P base seed z cn rc st t k E) {x : Nat} (sv : Array Value) (h1 : x < w1.heap.size) (h0 : w.heap.size ≤ x) (hg : w.grownBy w1 none) (hF : ¬ P.F x ∧ x ≠ P.kb ∧ x ≠ P.lb) (hx : w0.heap.size ≤ x) (hf : SlFar w1 P.s x) :
    EnterPost w0 w (w'.setRow x sv) e P base seed z cn rc st t k E := by
  have hk := row_kept (w := w') (x := x) sv
  rcases h with ⟨hk0, he, hi, g⟩ | ⟨hk0, hor, hkk, hfa⟩
  · exact .inl ⟨hk0, he, hi.beside hk hF hx (hf.kept (Kept.of_grown (F := fun _ => False) g fun _ e => by cases e) (fun h => h)), grown_row (grown_trans hg g) (.inl h0) sv⟩
  · have hf' := hfa x h1 hf
    have hs : ¬ P.s = x := fun e => hF.1 (by simp only [GdP.F]; omega)
    refine .inr ⟨hk0, ?_, ((Kept.of_grown (F := P.F) hg fun _ e => by cases e).next hkk (fun _ _ h => h)).next hk (fun j hj e => by have e : j = x := e; omega), fun j hj hj' => ?_⟩
    · rcases hor with ⟨hne, he, hi⟩ | ⟨hz, he, hi⟩
      · exact .inl ⟨hne, he, hi.beside hk hF hx hf'⟩
      · exact .inr ⟨hz, he, hi.beside hk hF hx hf'⟩
    · exact (hfa j (Nat.lt_of_lt_of_le hj hg.size) (hj'.kept (Kept.of_grown (F := fun _ => False) hg fun _ e => by cases e) (fun h => h))).kept hk hs
end
section
variable {w0 w w' : World} {P : GdP} {base : Int} {seed : List Int} {z : DkS} {cn : Nat} {rc : List UInt8} {st : St}
set_option maxRecDepth 100000 in
set_option maxHeartbeats 2000000 in
theorem ask_is (h : GdIs w0 w P base seed z cn rc st) (hR : Rounds w0) (E : Nat → Addr) (he : ErrEnv w0 w0.heap.size E) (hseed : isDig seed) (hcn : cn < 9223372036854775000) (hb : 0 ≤ base ∧ base < 1000000) (x : Stp) (hep : -9223372036854775808 ≤ x.ep ∧ x.ep < 9223372036854775808) (hxr : -9223372036854775808 ≤ x.r ∧ x.r < 9223372036854775808) (hxq : -9223372036854775808 ≤ x.q ∧ x.q < 9223372036854775808) (d : List Int) (hd : isDig d) (dd : Array Value) (hdd : dd = arrV .u8 d) (xs : Array Value) (hxs : xs = askC x dd) :
    Calls Tryz.prog 27 #[.pointer (some ⟨P.g, 0, none⟩), .agg xs] w fun e w' => AskPost w0 w w' e P base seed z cn rc st x d E := by
  have hz30 := sigz_run
  have hzb := sigz_build
  obtain ⟨q, hq⟩ : ∃ q, w.heap.size = q := ⟨_, rfl⟩
  obtain ⟨W1, hW1⟩ : ∃ W1, (w.alloc (.cells xs 30)).alloc (.cells sigZ 73) = W1 := ⟨_, rfl⟩
  have b0 : Blk W1 q 30 xs := by rw [← hW1, ← hq]; exact (Blk.new _ _ _).alloc _
  have b1 : Blk W1 (q + 1) 73 sigZ := by
    have h := Blk.new (w.alloc (.cells xs 30)) 73 sigZ
    rw [World.size_alloc, hq, hW1] at h
    exact h
  have gW1 : w.grownBy W1 none := by rw [← hW1]; exact grown_trans (World.grownBy_alloc _ _ none) (World.grownBy_alloc _ _ none)
  have hd16 : dd.size = 16 := by rw [hdd, arr_size, hd.1]
  have h1 := h.grown gW1
  have hlt := h.lt
  have hl2 := h.lt2
  rw [hq] at hlt hl2
  have hF : ¬ P.F (q + 1) ∧ (q + 1) ≠ P.kb ∧ (q + 1) ≠ P.lb := by simp only [GdP.F]; omega
  have hfar : SlFar W1 P.s (q + 1) := (h.sl.farNew (g := (q + 1)) (by omega)).kept (Kept.of_grown (F := fun _ => False) gW1 fun _ e => by cases e) (fun h => h)
  rw [hxs] at b0
  obtain ⟨x0, x1, x2, x3, x4, x5⟩ := ask_cells b0
  have HD := Lib.hid (And.intro x5 hd16)
  have HS := Lib.hid (And.intro b1 (And.intro gW1 (And.intro hF (And.intro hfar (And.intro (show w0.heap.size ≤ q + 1 by have := h.low; omega) (show q + 1 < W1.heap.size from b1.lt))))))
  have HW := Lib.hid (And.intro hq hW1)
  have HV := Lib.hid (gvote_is h1 hR E he hseed hcn hb x hep hxr d hd dd hdd)
  have HL := Lib.hid (glate_is h1 hR E he hseed hcn hb x hep hxr hxq)
  have HP := Lib.hid (gprop_is h1 hR E he hseed hcn hb x hep hxr d hd dd hdd)
  have HE := Lib.hid (genter_is h1 hR E he hcn hb x)
  clear h hR he hseed hcn hb hep hxr hxq hd hdd hlt hl2 gW1 b1 hq hW1 h1 hF hfar b0 x5 hd16 hxs
  go_enter Tryz.func27, Tryz.ntmps27
  go_upto_region 1 with (fail)
  rw [HW.out.2, HW.out.1]
  clear hz30
  by_cases k1 : x.k = 1
  · have HK := Lib.hid k1
    have d1 : (x.k == 1) = true := by simp [k1]
    clear k1 hzb
    go_wp2_with (first
      | (refine wpList_load_mid rfl 23 _ rfl q 5 rfl dd.toList _ HD.out.1 Tryz.underlying23 rfl (by rw [Array.length_toList, HD.out.2]; exact info16) ?_))
    refine HV.out.mono ?_
    clear HV HL HP HE
    rintro e w2 hsp
    obtain ⟨sg, ev, rfl, hsz, hso⟩ := hsp.form
    have b2 := HS.out.1.kept hsp.kept HS.out.2.2.1.1
    have hst := hsp.store (w := w) (x := (q + 1)) sg HS.out.2.2.2.2.2 (by rw [HW.out.1]; omega) HS.out.2.1 HS.out.2.2.1 HS.out.2.2.2.2.1 HS.out.2.2.2.1
    have H2 := Lib.hid (And.intro hst (And.intro b2 (And.intro hsz hso)))
    clear hsp hsz hso b2 hst
    go_wp2_with (first
      | (refine wpList_store_row rfl 73 _ _ rfl (q + 1) sg rfl rfl 73 _ H2.out.2.1 (by rw [H2.out.2.2.1]; exact info3) (by rw [H2.out.2.2.1]; rfl) H2.out.2.2.2 ?_))
    refine bodyPost_ret (results_cell_t rfl _ _ _ ⟨(q + 1), 0, none⟩ (.agg sg) rfl (run_loadVar_row _ (q + 1) 73 73 _ (0, 0) _ (H2.out.2.1.row _) Tryz.underlying73 rfl (by rw [H2.out.2.2.1]; exact info3))) rfl ?_
    refine .inl ⟨by have := HK.out; omega, ?_⟩
    rw [askR, askK, askM, if_pos HK.out, if_pos HK.out, if_pos HK.out]
    exact H2.out.1
  by_cases k2 : x.k = 2
  · have HK := Lib.hid (And.intro k1 k2)
    have d1 : (x.k == 1) = false := by simp [k1]
    have d2 : (x.k == 2) = true := by simp [k2]
    clear k1 k2 hzb
    go_wp2_with fail
    refine HL.out.mono ?_
    clear HV HL HP HE
    rintro e w2 hsp
    obtain ⟨sg, ev, rfl, hsz, hso⟩ := hsp.form
    have b2 := HS.out.1.kept hsp.kept HS.out.2.2.1.1
    have hst := hsp.store (w := w) (x := (q + 1)) sg HS.out.2.2.2.2.2 (by rw [HW.out.1]; omega) HS.out.2.1 HS.out.2.2.1 HS.out.2.2.2.2.1 HS.out.2.2.2.1
    have H2 := Lib.hid (And.intro hst (And.intro b2 (And.intro hsz hso)))
    clear hsp hsz hso b2 hst
    go_wp2_with (first
      | (refine wpList_store_row rfl 73 _ _ rfl (q + 1) sg rfl rfl 73 _ H2.out.2.1 (by rw [H2.out.2.2.1]; exact info3) (by rw [H2.out.2.2.1]; rfl) H2.out.2.2.2 ?_))
    refine bodyPost_ret (results_cell_t rfl _ _ _ ⟨(q + 1), 0, none⟩ (.agg sg) rfl (run_loadVar_row _ (q + 1) 73 73 _ (0, 0) _ (H2.out.2.1.row _) Tryz.underlying73 rfl (by rw [H2.out.2.2.1]; exact info3))) rfl ?_
    refine .inl ⟨by have := HK.out; omega, ?_⟩
    rw [askR, askK, askM, if_neg HK.out.1, if_neg HK.out.1, if_neg HK.out.1, if_pos HK.out.2, if_pos HK.out.2, if_pos HK.out.2]
    exact H2.out.1
  by_cases k3 : x.k = 3
  · have HK := Lib.hid (And.intro k1 (And.intro k2 k3))
    have d1 : (x.k == 1) = false := by simp [k1]
    have d2 : (x.k == 2) = false := by simp [k2]
    have d3 : (x.k == 3) = true := by simp [k3]
    clear k1 k2 k3 hzb
    go_wp2_with (first
      | (refine wpList_load_mid rfl 23 _ rfl q 5 rfl dd.toList _ HD.out.1 Tryz.underlying23 rfl (by rw [Array.length_toList, HD.out.2]; exact info16) ?_))
    refine HP.out.mono ?_
    clear HV HL HP HE
    rintro e w2 hsp
    obtain ⟨sg, ev, rfl, hsz, hso⟩ := hsp.form
    have b2 := HS.out.1.kept hsp.kept HS.out.2.2.1.1
    have hst := hsp.store (w := w) (x := (q + 1)) sg HS.out.2.2.2.2.2 (by rw [HW.out.1]; omega) HS.out.2.1 HS.out.2.2.1 HS.out.2.2.2.2.1 HS.out.2.2.2.1
    have H2 := Lib.hid (And.intro hst (And.intro b2 (And.intro hsz hso)))
    clear hsp hsz hso b2 hst
    go_wp2_with (first
      | (refine wpList_store_row rfl 73 _ _ rfl (q + 1) sg rfl rfl 73 _ H2.out.2.1 (by rw [H2.out.2.2.1]; exact info3) (by rw [H2.out.2.2.1]; rfl) H2.out.2.2.2 ?_))
    refine bodyPost_ret (results_cell_t rfl _ _ _ ⟨(q + 1), 0, none⟩ (.agg sg) rfl (run_loadVar_row _ (q + 1) 73 73 _ (0, 0) _ (H2.out.2.1.row _) Tryz.underlying73 rfl (by rw [H2.out.2.2.1]; exact info3))) rfl ?_
    refine .inl ⟨by have := HK.out; omega, ?_⟩
    rw [askR, askK, askM, if_neg HK.out.1, if_neg HK.out.1, if_neg HK.out.1, if_neg HK.out.2.1, if_neg HK.out.2.1, if_neg HK.out.2.1, if_pos HK.out.2.2, if_pos HK.out.2.2]
    exact H2.out.1
  · have HK := Lib.hid (And.intro k1 (And.intro k2 k3))
    have d1 : (x.k == 1) = false := by simp [k1]
    have d2 : (x.k == 2) = false := by simp [k2]
    have d3 : (x.k == 3) = false := by simp [k3]
    clear k1 k2 k3
    go_wp2_with fail
    refine HE.out.mono ?_
    clear HV HL HP HE
    rintro e w2 hsp
    obtain ⟨ev, rfl⟩ := hsp.form
    have b2 := HS.out.1.kept hsp.kept HS.out.2.2.1.1
    have hst := hsp.store (w := w) (x := (q + 1)) sigZ HS.out.2.2.2.2.2 (by rw [HW.out.1]; omega) HS.out.2.1 HS.out.2.2.1 HS.out.2.2.2.2.1 HS.out.2.2.2.1
    have H2 := Lib.hid (And.intro hst b2)
    clear hsp b2 hst hzb
    go_wp2_with (first
      | (refine wpList_store_row rfl 73 _ _ rfl (q + 1) sigZ rfl rfl 73 _ H2.out.2 info3 rfl sigZ_one ?_))
    refine bodyPost_ret (results_cell_t rfl _ _ _ ⟨(q + 1), 0, none⟩ (.agg sigZ) rfl (run_loadVar_row _ (q + 1) 73 73 _ (0, 0) _ (H2.out.2.row _) Tryz.underlying73 rfl info3)) rfl ?_
    refine .inr ⟨by have := HK.out; omega, _, rfl, ?_⟩
    rw [askR, askK, if_neg HK.out.1, if_neg HK.out.1, if_neg HK.out.2.1, if_neg HK.out.2.1, if_neg HK.out.2.2, if_neg HK.out.2.2]
    exact H2.out.1
end
end Go.Proofs.YthkjlgjbjjjohaaGreatDoor
