/-
  A changed signature's argument that came in.
-/
import Derived.Test.YtpldegdcachlmaaDoorKt
import Derived.Test.YtpldegdcachlmaaDoorDiA
namespace Go.Proofs.YtpldegdcachlmaaDoor
open Go.RowKit Go.WideShapes

theorem cut36 {α : Type} (l : List α) (h : l.length = 36) : l = (l.drop 0).take 16 ++ ((l.drop 16).take 16 ++ ((l.drop 32).take 1 ++ ((l.drop 33).take 1 ++ ((l.drop 34).take 1 ++ (l.drop 35).take 1)))) := by
  have key : ∀ a b, (l.drop a).take b ++ l.drop (a + b) = l.drop a := fun a b => by
    have := List.take_append_drop b (l.drop a)
    rwa [List.drop_drop] at this
  have e5 : (l.drop 35).take 1 = l.drop 35 := List.take_of_length_le (by rw [List.length_drop, h]; omega)
  rw [e5, key 34 1, key 33 1, key 32 1, key 16 16, key 0 16, List.drop_zero]
section
variable {H : Type} {enc : TypeId × Value → H} {w : World} {base : Nat} {spare : Nat → Bool} {held : Bool}
set_option maxRecDepth 100000 in
theorem arg_spoilt {v : Value} {d : DataW H} {p : List MemPlace} {b0 : Nat} (hv : Value.okWide Tryd.prog w .any b0 44 v) (h : DataW.Trod enc Tryd.prog w base spare held 44 v d p) :
    ∃ (l0 l1 : List Int) (lf at' bv : Int) (way : Bool), v = .agg (arrV .u8 l0 ++ (arrV .u8 l1 ++ #[.int .i64 lf, .int .i64 at', .int .u8 bv, .bool way])) ∧ isDig l0 ∧ isDig l1 ∧ 0 ≤ bv ∧ bv < 256 := by
  obtain ⟨cs, rfl, hsz⟩ := okWide_struct Tryd.underlying44 hv
  obtain ⟨fuel, hf⟩ := h
  have hf' : DataW.trod enc Tryd.prog w base spare held fuel 44 cs.toList = some (d, p) := hf
  obtain ⟨xs, n, _, _, hl, hxl, hi⟩ := DataW.trod_struct Tryd.underlying44 hf'
  have c36 : cs.toList.length = 36 := hl.trans (by kernel_rfl)
  have hx6 : xs.length = 6 := hxl
  have e0 : DataW.trod enc Tryd.prog w base spare held n 23 ((cs.toList.drop 0).take (Tryd.prog.cellsOf 23)) = xs[0]? := hi 0 _ rfl
  have e1 : DataW.trod enc Tryd.prog w base spare held n 23 ((cs.toList.drop 16).take (Tryd.prog.cellsOf 23)) = xs[1]? := hi 1 _ rfl
  have e2 : DataW.trod enc Tryd.prog w base spare held n 3 ((cs.toList.drop 32).take (Tryd.prog.cellsOf 3)) = xs[2]? := hi 2 _ rfl
  have e3 : DataW.trod enc Tryd.prog w base spare held n 3 ((cs.toList.drop 33).take (Tryd.prog.cellsOf 3)) = xs[3]? := hi 3 _ rfl
  have e4 : DataW.trod enc Tryd.prog w base spare held n 5 ((cs.toList.drop 34).take (Tryd.prog.cellsOf 5)) = xs[4]? := hi 4 _ rfl
  have e5 : DataW.trod enc Tryd.prog w base spare held n 4 ((cs.toList.drop 35).take (Tryd.prog.cellsOf 4)) = xs[5]? := hi 5 _ rfl
  rw [List.getElem?_eq_getElem (by omega)] at e0 e1 e2 e3 e4 e5
  obtain ⟨l0, h0, hl0, _, hw0⟩ := arr_of_trod Tryd.underlying23 Tryd.underlying5 (by kernel_rfl) (by kernel_rfl) e0
  obtain ⟨l1, h1, hl1, _, hw1⟩ := arr_of_trod Tryd.underlying23 Tryd.underlying5 (by kernel_rfl) (by kernel_rfl) e1
  obtain ⟨lf, h2, _, _⟩ := DataW.trod_int Tryd.underlying3 e2
  obtain ⟨at', h3, _, _⟩ := DataW.trod_int Tryd.underlying3 e3
  obtain ⟨bv, h4, _, hw4⟩ := DataW.trod_int Tryd.underlying5 e4
  obtain ⟨way, h5, _⟩ := DataW.trod_bool Tryd.underlying4 e5
  have k16 : Tryd.prog.cellsOf 23 = 16 := by kernel_rfl
  have ki : Tryd.prog.cellsOf 3 = 1 := by kernel_rfl
  have kb : Tryd.prog.cellsOf 5 = 1 := by kernel_rfl
  have ko : Tryd.prog.cellsOf 4 = 1 := by kernel_rfl
  rw [k16] at h0 h1
  rw [ki] at h2 h3
  rw [kb] at h4
  rw [ko] at h5
  have hcs := cut36 cs.toList c36
  rw [h0, h1, h2, h3, h4, h5] at hcs
  have u8 : ∀ z : Int, (Lit.int .u8 z).wf = true → 0 ≤ z ∧ z < 256 := fun z hz => by
    simp [Lit.wf, IntKind.min, IntKind.max, IntKind.signed, IntKind.bits] at hz
    omega
  refine ⟨l0, l1, lf, at', bv, way, ?_, ⟨hl0, fun z hz => u8 z (hw0 z hz)⟩, ⟨hl1, fun z hz => u8 z (hw1 z hz)⟩, u8 bv hw4⟩
  refine congrArg Value.agg (Array.toList_inj.1 ?_)
  rw [hcs]
  simp [arrV]
end
end Go.Proofs.YtpldegdcachlmaaDoor
