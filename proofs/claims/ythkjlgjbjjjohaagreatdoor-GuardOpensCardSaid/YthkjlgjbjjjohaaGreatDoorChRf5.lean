/-
  Several texts in one: ChV, ChW, ChZ.
-/
import Derived.Test.YthkjlgjbjjjohaaGreatDoorChSig5
import Derived.Test.YthkjlgjbjjjohaaGreatDoorDiA
import Derived.Deep.MidRow
import Derived.Deep.RegionHeld3
import Derived.Test.YthkjlgjbjjjohaaGreatDoorChRec5
import Derived.Test.YthkjlgjbjjjohaaGreatDoorErrA
/-
  quorateref03.Public.
-/

namespace Go.Proofs.YthkjlgjbjjjohaaGreatDoor
open Go.RowKit

theorem rrun_to (w : World) (x : List Int) (hx : isDig x) (lf i to : Int) (h3 : to ≤ 3) (n : Nat) (hn : n = (to - 0).toNat) (ds rs : Array Value) (hd : ds = arrV .u8 x) (hrs : rs = arrV .u8 (runC x lf i 0 n)) :
    Calls Tryz.prog 100 #[.agg ds, .int .i64 lf, .int .i64 i, .int .i64 0, .int .i64 to] w fun e w' => e = .returned (.agg rs) ∧ w.grownBy w' none := by
  subst hd
  exact rrun_is w x hx lf i 0 to (by omega) h3 n hn rs hrs

end Go.Proofs.YthkjlgjbjjjohaaGreatDoor
/-
  quorateref03.Sign and quorateref03.Same.
-/
namespace Go.Proofs.YthkjlgjbjjjohaaGreatDoor
open Go.RowKit

theorem rsig_of (w : World) (seed : List Int) (lf i : Int) (d : List Int) (k : Nat) (hi : i = (k : Int)) (x : Int) (hx : x = (digitsS d).getD k 0) (cs es : Array Value) (h1 : cs = arrV .u8 (secC seed lf k)) (h2 : es = arrV .u8 (sigS seed lf d k)) :
    Calls Tryz.prog 100 #[.agg cs, .int .i64 lf, .int .i64 i, .int .i64 0, .int .i64 x] w fun e w' => e = .returned (.agg es) ∧ w.grownBy w' none := by
  subst hi
  have := dig_range d k
  exact rrun_to w (secC seed lf k) (secC_dig _ _ _) lf k x (by omega) (digN d k) (by rw [digN, ← hx]; omega) cs es h1 (by rw [h2, sigS])
theorem rdigits_v (w : World) (d : List Int) (hd : isDig d) (dd : Array Value) (h : dd = arrV .u8 d) : Calls Tryz.prog 98 #[.agg dd] w fun e w' =>
    ∃ g cap, e = .returned (.slice (some ⟨g, 0, none⟩) 68 cap) ∧ (∀ j, j < 68 → w'.cell? ⟨g, j, none⟩ = some (.int .i64 ((digitsS d).getD j 0))) ∧ w.heap.size ≤ g ∧ w.grownBy w' none := by
  subst h; exact rdigits_is w d hd.1 hd.2

end Go.Proofs.YthkjlgjbjjjohaaGreatDoor
/-
  ChainsSigns, walked.
-/
namespace Go.Proofs.YthkjlgjbjjjohaaGreatDoor
open Go.RowKit

theorem pub_v (w : World) (hR : Rounds w) (seed : List Int) (hs : isDig seed) (lf : Int) (hlf : 0 ≤ lf ∧ lf < 32) (ds rs : Array Value) (h : ds = arrV .u8 seed) (hrs : rs = arrV .u8 (pubS seed lf)) :
    Calls Tryz.prog 34 #[.agg ds, .int .i64 lf] w fun e w' => e = .returned (.tuple #[.agg rs, .nilIface]) ∧ w.grownBy w' none := by
  subst h; exact pub_ok w hR seed hs lf hlf rs hrs
theorem sign_v (w : World) (hR : Rounds w) (seed : List Int) (hs : isDig seed) (lf : Int) (hlf : 0 ≤ lf ∧ lf < 32) (d : List Int) (hd : isDig d) (ds dd : Array Value) (h : ds = arrV .u8 seed) (h2 : dd = arrV .u8 d) :
    Calls Tryz.prog 120 #[.agg ds, .int .i64 lf, .agg dd] w fun e w' => ∃ b, e = .returned (.tuple #[.slice (some ⟨b, 0, none⟩) 68 68, .nilIface]) ∧ w.heap.size ≤ b ∧ w'.there b 0 1088 ∧ DigsAt w' b 0 (sigsS seed lf d) ∧ w.grownBy w' none := by
  subst h h2; exact sign_ok w hR seed hs lf hlf d hd
end Go.Proofs.YthkjlgjbjjjohaaGreatDoor
