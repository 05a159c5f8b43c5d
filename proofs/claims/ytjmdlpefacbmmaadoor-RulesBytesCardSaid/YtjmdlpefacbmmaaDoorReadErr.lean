/-
  A Reader with an error: every read answers a zero value, and nothing is turned.
-/
import Derived.Test.YtjmdlpefacbmmaaDoorRead2
namespace Go.Proofs.YtjmdlpefacbmmaaDoor
open Go.RowKit

section
variable (w : World) (B g s : Nat) (t : TypeId) (v : Value) (l : List UInt8) (a0 a1 : Addr)

theorem rdone_err (hr : RdIs w g s (.iface t v) l) :
    Calls Tryd.prog 37 #[.pointer (some ⟨g, 0, none⟩)] w fun e w' => e = .returned (.iface t v) ∧ w = w' := by
  obtain ⟨A, c, hb, hl, hc, hA⟩ := hr
  have c0 := hb.cell 0
  simp at c0
  go_enter Tryd.func37, Tryd.ntmps37
  go_wp2
  go_ret
  exact ⟨rfl, rfl⟩
end
end Go.Proofs.YtjmdlpefacbmmaaDoor
