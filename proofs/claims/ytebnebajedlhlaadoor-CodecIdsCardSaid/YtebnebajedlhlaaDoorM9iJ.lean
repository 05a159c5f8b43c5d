/-
  Several texts in one: CdMw, CdAl.
-/
import Derived.Test.YtebnebajedlhlaaDoorM9iI
import Derived.Test.YtebnebajedlhlaaDoorM9iF
/-
  codec.write of a message, Encode.
-/
namespace Go.Proofs.YtebnebajedlhlaaDoor
open Go.RowKit

section
variable {w0 : World} {E : Nat → Addr} {g : Nat} (he : ErrAt w0 w0.heap.size 1 (E 0))
include he
theorem msg_st (w : World) (F : Nat → Prop) (s : WSt) (h : WI w0 E g F s w) (hs : s.2.length ≤ 500000) (m : Msg) (hm : m.At w0) (hk : 1 ≤ m.kind ∧ m.kind ≤ 6) (cs : Array Value) (hcs : cs = m.val) :
    Calls Tryd.prog 18 #[.agg #[.pointer (some ⟨g, 0, none⟩)], .agg cs] w fun e w' => e = .returned (.tuple #[]) ∧ WP w0 E g F (sMsg m s) w w' := by
  have h6 : m.kind = 1 ∨ m.kind = 2 ∨ m.kind = 3 ∨ m.kind = 4 ∨ m.kind = 5 ∨ m.kind = 6 := by omega
  rcases h6 with h1 | h1 | h1 | h1 | h1 | h1
  · exact msg1_st he w F s h hs m hm h1 cs hcs
  · exact msg2_st he w F s h hs m hm h1 cs hcs
  · exact msg3_st he w F s h hs m hm h1 cs hcs
  · exact msg4_st he w F s h hs m hm h1 cs hcs
  · exact msg5_st he w F s h hs m hm h1 cs hcs
  · exact msg6_st he w F s h hs m hm h1 cs hcs
end
def msS (m : Msg) : WSt := sMsg m (0, [])
section
variable {E : Nat → Addr}
set_option maxRecDepth 100000 in
set_option maxHeartbeats 1000000 in
theorem cwriteM_is (w : World) (he : ErrAt w w.heap.size 1 (E 0)) (m : Msg) (hb : m.At w) (hk : 1 ≤ m.kind ∧ m.kind ≤ 6) (cs : Array Value) (hcs : cs = m.val) :
    Calls Tryd.prog 17 #[.agg cs, .func (.func 18) #[] #[]] w fun e w' => WOut w w' E (msS m) e := by
  have hzz := wr_zero
  have hbb := wr_build
  obtain ⟨W1, hW1⟩ : ∃ W1, w.alloc (.cells cs 64) = W1 := ⟨_, rfl⟩
  have g1 : w.grownBy W1 none := by rw [← hW1]; exact World.grownBy_alloc _ _ none
  have bx : Blk W1 w.heap.size 64 cs := by rw [← hW1]; exact Blk.new w _ _
  have z1 : W1.heap.size = w.heap.size + 1 := by rw [← hW1]; simp
  have hsz : cs.size = 304 := by rw [hcs]; exact Msg.size hb
  have he1 : ErrAt W1 W1.heap.size 1 (E 0) := ⟨g1.cell he.1 (by simp), by have := he.2; omega⟩
  have hb1 := hb.grown g1
  have HX := Lib.hid (And.intro he1 (And.intro hb1 (And.intro hsz (And.intro bx (And.intro g1 (And.intro z1 hcs))))))
  have HW := Lib.hid hW1
  clear he hb hW1 g1 bx z1 hsz he1 hb1 hcs
  go_enter Tryd.func17, Tryd.ntmps17
  go_upto_region 1 with (fail)
  rw [HW.out]
  go_wp2_with fail
  refine (new_st W1 E).mono ?_
  rintro e W2 ⟨rfl, hi2⟩
  have HI2 := Lib.hid hi2
  clear hi2
  go_upto_region 2 with (fail)
  obtain ⟨W3, hW3⟩ : ∃ W3, W2.alloc (.cells #[.pointer (some ⟨W1.heap.size, 0, none⟩)] 71) = W3 := ⟨_, rfl⟩
  have g3 : W2.grownBy W3 none := by
    rw [← hW3]; exact World.grownBy_alloc _ _ none
  have bw : Blk W3 W2.heap.size 71 #[.pointer (some ⟨W1.heap.size, 0, none⟩)] := by
    rw [← hW3]; exact Blk.new _ _ _
  have hi3 := HI2.out.opened g3
  have bx3 : Blk W3 w.heap.size 64 cs := (HX.out.2.2.2.1.kept HI2.out.kept (fun h => by have := HX.out.2.2.2.2.2.1; simp only [newF] at h; omega)).grown g3 (by simp)
  have c0 : W3.cell? ⟨W2.heap.size, 0, none⟩ = some (.pointer (some ⟨W1.heap.size, 0, none⟩)) := by simpa using bw.cell 0
  have HB := Lib.hid (range_blk0 bx3)
  have HR := Lib.hid (msg_st HX.out.1 W3 _ _ hi3 (by simp) m HX.out.2.1 hk cs HX.out.2.2.2.2.2.2)
  have HC := Lib.hid (fun (w2 : World) (s2 : WSt) (P : WP W1 E W1.heap.size (fun k => newF W1 k ∧ k < W2.heap.size) s2 W3 w2) => And.intro (P.fine.cell c0 (fun h => absurd h.2 (by simp))) (WP.closed (F := newF W1) HI2.out g3 P))
  have HG := Lib.hid hW3
  clear hi3 bx3 bw g3 hW3
  rw [HG.out]
  go_wp2_with (refine wpList_load_mid rfl 64 _ rfl w.heap.size 0 rfl cs.toList _ HB.out Tryd.underlying64 rfl (by rw [Array.length_toList, HX.out.2.2.1]; exact sz_Ms) ?_; rw [Array.toArray_toList])
  refine HR.out.mono ?_
  rintro e W4 ⟨rfl, h4⟩
  obtain ⟨c4, P4⟩ := HC.out _ _ h4
  have HD := Lib.hid (done_st P4.wi (by have := HX.out.2.1.adds (0, []); exact Nat.le_trans this (by simp)))
  clear c0 h4 P4
  go_wp2_with fail
  refine HD.out.mono ?_
  rintro e W5 ⟨g5, hcase⟩
  have hg : w.grownBy W5 none := grown_trans HX.out.2.2.2.2.1 g5
  rcases hcase with ⟨h0, A, c, rfl, hown⟩ | ⟨h0, rfl⟩
  · have HO := Lib.hid (And.intro hg (And.intro h0 (hown.mono (base' := w.heap.size) (by have := HX.out.2.2.2.2.2.1; omega))))
    clear hg h0 hown g5
    go_wp2_with fail
    go_ret2
    exact ⟨HO.out.1, .inl ⟨HO.out.2.1, A, c, rfl, HO.out.2.2⟩⟩
  · have HO := Lib.hid (And.intro hg h0)
    clear hg h0 g5
    go_wp2_with fail
    go_ret2
    exact ⟨HO.out.1, .inr ⟨HO.out.2, rfl⟩⟩
/-- A message's bytes, or the error's number. -/
def encS (m : Msg) : WSt := if 1 ≤ m.kind ∧ m.kind ≤ 6 then msS m else (4, [])
set_option maxRecDepth 100000 in
set_option maxHeartbeats 1000000 in
theorem encode_is (w : World) (he : ErrAt w w.heap.size 1 (E 0)) (hf : ErrAt w w.heap.size 0 (E 3)) (m : Msg) (hb : m.At w) (cs : Array Value) (hcs : cs = m.val) :
    Calls Tryd.prog 9 #[.agg cs] w fun e w' => WOut w w' E (encS m) e := by
  obtain ⟨W1, hW1⟩ : ∃ W1, w.alloc (.cells cs 64) = W1 := ⟨_, rfl⟩
  have g1 : w.grownBy W1 none := by rw [← hW1]; exact World.grownBy_alloc _ _ none
  have bx : Blk W1 w.heap.size 64 cs := by rw [← hW1]; exact Blk.new w _ _
  have hsz : cs.size = 304 := by rw [hcs]; exact Msg.size hb
  have c1 : W1.cell? ⟨w.heap.size, 0, none⟩ = some (.int .i64 m.kind) := by
    have r := range_blk0 bx
    have := r 0 (.int .i64 m.kind) (by rw [hcs]; simp [Msg.val])
    simpa using this
  have z1 := g1.size
  have hf1 := (g1.cell hf.1 (by simp))
  obtain ⟨K, hK⟩ : ∃ K, K = m.kind := ⟨_, rfl⟩
  rw [← hK] at c1
  by_cases hk : 1 ≤ m.kind ∧ m.kind ≤ 6
  · have hes : encS m = msS m := if_pos hk
    rw [hes]
    have HR := Lib.hid (cwriteM_is W1 (E := E) ⟨g1.cell he.1 (by simp), by have := he.2; omega⟩ m (hb.grown g1) hk cs hcs)
    have HX := Lib.hid (And.intro hsz (And.intro (range_blk0 bx) (And.intro g1 z1)))
    have HW := Lib.hid hW1
    have d1 : decide (K < 1) = false := by simp; omega
    have d2 : decide (6 < K) = false := by simp; omega
    have d3 : ¬ K < 1 := by omega
    have d4 : ¬ 6 < K := by omega
    clear he hb hW1 g1 bx hsz hcs z1 hf hf1 hk hes hK
    go_enter Tryd.func9, Tryd.ntmps9
    go_upto_region 1 with (fail)
    rw [HW.out]
    go_wp2_with (refine wpList_load_mid rfl 64 _ rfl w.heap.size 0 rfl cs.toList _ HX.out.2.1 Tryd.underlying64 rfl (by rw [Array.length_toList, HX.out.1]; exact sz_Ms) ?_; rw [Array.toArray_toList])
    refine HR.out.mono ?_
    rintro e W5 ⟨g5, hcase⟩
    have hg : w.grownBy W5 none := grown_trans HX.out.2.2.1 g5
    rcases hcase with ⟨h0, A, c, rfl, hown⟩ | ⟨h0, rfl⟩
    · have HO := Lib.hid (And.intro hg (And.intro h0 (hown.mono (base' := w.heap.size) HX.out.2.2.2)))
      clear hg h0 hown g5
      go_wp2_with fail
      go_ret2
      exact ⟨HO.out.1, .inl ⟨HO.out.2.1, A, c, rfl, HO.out.2.2⟩⟩
    · have HO := Lib.hid (And.intro hg h0)
      clear hg h0 g5
      go_wp2_with fail
      go_ret2
      exact ⟨HO.out.1, .inr ⟨HO.out.2, rfl⟩⟩
  · have hes : encS m = (4, []) := if_neg hk
    rw [hes]
    have HX := Lib.hid g1
    have HW := Lib.hid hW1
    have hbad : K < 1 ∨ (¬ K < 1 ∧ 6 < K) := by omega
    clear he hb g1 bx hsz hcs z1 hf hk hes hK hW1
    rcases hbad with d1 | ⟨d1, d2⟩
    · have d3 : decide (K < 1) = true := by simpa using d1
      go_enter Tryd.func9, Tryd.ntmps9
      go_upto_region 1 with (fail)
      rw [HW.out]
      go_wp2_with fail
      go_region
      all_goals
        go_wp2
        go_ret2
        exact ⟨grown_drew HX.out, .inr ⟨by simp, rfl⟩⟩
    · have d3 : decide (K < 1) = false := by simpa using d1
      have d4 : decide (6 < K) = true := by simpa using d2
      go_enter Tryd.func9, Tryd.ntmps9
      go_upto_region 1 with (fail)
      rw [HW.out]
      go_wp2_with fail
      go_region
      all_goals
        go_wp2
        go_ret2
        exact ⟨grown_drew HX.out, .inr ⟨by simp, rfl⟩⟩
end
end Go.Proofs.YtebnebajedlhlaaDoor
/-
  The chapter's example: a Want.
-/

namespace Go.Proofs.YtebnebajedlhlaaDoor
open Go.RowKit

def z16 : List Int := List.replicate 16 0
def nQ : Qc := ⟨0, 0, z16, none, 0, []⟩
def nT : Tc := ⟨0, 0, none, 0, []⟩
def nS : Sg := ⟨0, 0, none, 0, 0, [], none, 0, 0, []⟩
def nB : Bk := ⟨0, 0, z16, nQ, none, 0, [], none, 0, []⟩
def al3 : List Int := 3 :: List.replicate 15 0
def alM : Msg := ⟨4, ⟨0, 0, z16, nS⟩, ⟨0, 0, nQ, nT, nS⟩, ⟨nB, nT, nS⟩, ⟨al3, z16⟩, nB, ⟨nB, nB, nB, nQ⟩⟩
theorem z16_dig : isDig z16 := zeroC_dig
theorem al3_dig : isDig al3 := ⟨rfl, fun z hz => by
  simp only [al3, List.mem_cons, List.mem_replicate] at hz
  omega⟩
theorem nRow (w : World) : DigRow w none 0 [] := ⟨rfl, fun p hp => absurd hp (List.not_mem_nil), .inl rfl⟩
theorem nQ_at (w : World) : nQ.At w := ⟨z16_dig, fun h => absurd rfl h, fun s hs => absurd hs (List.not_mem_nil)⟩
theorem nT_at (w : World) : nT.At w := ⟨fun h => absurd rfl h, fun s hs => absurd hs (List.not_mem_nil)⟩
theorem nS_at (w : World) : nS.At w := ⟨nRow w, nRow w⟩
theorem nB_at (w : World) : nB.At w := ⟨z16_dig, nQ_at w, ⟨fun h => absurd rfl h, fun s hs => absurd hs (List.not_mem_nil)⟩, fun h => absurd rfl h, fun s hs => absurd hs (List.not_mem_nil)⟩
theorem alM_at (w : World) : alM.At w := ⟨⟨z16_dig, nS_at w⟩, ⟨nQ_at w, nT_at w, nS_at w⟩, ⟨nB_at w, nT_at w, nS_at w⟩, ⟨al3_dig, z16_dig⟩, nB_at w, nB_at w, nB_at w, nB_at w, nQ_at w⟩
theorem al_bytes : encS alM = (0, 4 :: 3 :: List.replicate 31 0) := by kernel_rfl
set_option maxRecDepth 100000 in
set_option maxHeartbeats 1000000 in
theorem alive9 (w : World) (E : Nat → Addr) (he : ErrAt w w.heap.size 1 (E 0)) (hf : ErrAt w w.heap.size 0 (E 3)) :
    Calls Tryd.prog 4 #[] w fun e w' => e = .returned (.bool true) ∧ w.grownBy w' none := by
  have HE := Lib.hid (fun (x : Array Value) (hx : x = alM.val) => encode_is w he hf alM (alM_at w) x hx)
  clear he hf
  go_enter Tryd.func4, Tryd.ntmps4
  go_wp2_with fail
  refine (HE.out _ (by kernel_rfl)).mono ?_
  rintro e w1 ⟨g1, hcase⟩
  rw [al_bytes] at hcase
  rcases hcase with ⟨_, A, c, rfl, hown⟩ | ⟨h0, _⟩
  · obtain ⟨g, cap, hA⟩ := Joins.ownsRow_form hown (by simp)
    cases hA
    have c0 : w1.cell? ⟨g, 0, none⟩ = some (.int .u8 4) := by
      have := hown.cells (g := g) rfl 0 _ rfl
      rwa [Go.WideShapes.add_plain] at this
    have c1 : w1.cell? ⟨g, 1, none⟩ = some (.int .u8 3) := by
      have := hown.cells (g := g) rfl 1 _ rfl
      rwa [Go.WideShapes.add_plain] at this
    have HG := Lib.hid g1
    clear hown g1
    simp only [List.length_cons, List.length_replicate, Nat.reduceAdd]
    go_wp2_with fail
    go_ret
    exact ⟨rfl, HG.out⟩
  · exact absurd rfl h0
end Go.Proofs.YtebnebajedlhlaaDoor
