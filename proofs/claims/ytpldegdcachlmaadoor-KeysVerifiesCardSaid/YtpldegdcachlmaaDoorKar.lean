/-
  A signature that came in.
-/
import Derived.Test.YtpldegdcachlmaaDoorKy
import Derived.Test.YtpldegdcachlmaaDoorDiA
namespace Go.Proofs.YtpldegdcachlmaaDoor
open Go.RowKit

section
variable {H : Type} {enc : TypeId × Value → H} {w : World} {base : Nat} {spare : Nat → Bool} {held : Bool}
set_option maxRecDepth 100000 in
theorem arg_sig {v : Value} {d : DataW H} {p : List MemPlace} {b0 : Nat} (hv : Value.okWide Tryd.prog w .any b0 30 v) (h : DataW.Trod enc Tryd.prog w base spare held 30 v d p) :
    ∃ lf A1 n1 c1, ∃ cs : List (List Int), ∃ A2 n2 c2, ∃ ps : List (List Int), v = .agg (sigV lf (.slice A1 n1 c1) (.slice A2 n2 c2)) ∧ RowIn w A1 n1 cs ∧ RowIn w A2 n2 ps := by
  obtain ⟨v0, v1, v2, y0, y1, y2, n, rfl, rfl, rfl, h0, h1, h2⟩ := Joins.open_agg3 Tryd.underlying30 (by kernel_rfl) (by kernel_rfl) hv h
  obtain ⟨lf, e0, rfl, _⟩ := DataW.trod_int Tryd.underlying3 h0
  obtain ⟨A1, n1, c1, cs, e1, hl1, _, hd1, ha1⟩ := open_digs h1
  obtain ⟨A2, n2, c2, ps, e2, hl2, _, hd2, ha2⟩ := open_digs h2
  simp at e0 e1 e2
  subst e0 e1 e2
  refine ⟨lf, A1, n1, c1, cs, A2, n2, c2, ps, rfl, ⟨hl1, hd1, ?_⟩, ⟨hl2, hd2, ?_⟩⟩
  · by_cases e : n1 = 0
    · exact .inl e
    · exact .inr (digs_at (by rintro rfl; exact e hl1.symm) hd1 ha1)
  · by_cases e : n2 = 0
    · exact .inl e
    · exact .inr (digs_at (by rintro rfl; exact e hl2.symm) hd2 ha2)
end
end Go.Proofs.YtpldegdcachlmaaDoor
