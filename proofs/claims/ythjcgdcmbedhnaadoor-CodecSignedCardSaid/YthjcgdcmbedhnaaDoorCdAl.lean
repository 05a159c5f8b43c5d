/-
  The chapter's example: a Want.
-/
import Derived.Test.YthjcgdcmbedhnaaDoorCdMw
namespace Go.Proofs.YthjcgdcmbedhnaaDoor
open Go.RowKit

def z16 : List Int := List.replicate 16 0
def nQ : Qc := ⟨0, 0, z16, none, 0, []⟩
def nT : Tc := ⟨0, 0, none, 0, []⟩
def nS : Sg := ⟨0, 0, none, 0, 0, [], none, 0, 0, []⟩
def nB : Bk := ⟨0, 0, z16, nQ, none, 0, [], none, 0, []⟩
def al3 : List Int := 3 :: List.replicate 15 0
def alM : Msg := ⟨4, ⟨0, 0, z16, nS⟩, ⟨0, 0, nQ, nT, nS⟩, ⟨nB, nT, nS⟩, ⟨al3, z16⟩, nB, ⟨nB, nB, nB, nQ⟩⟩
theorem z16_dig : isDig z16 := zeroC_dig
theorem al3_dig : isDig al3 := ⟨rfl, fun z hz => by
  simp only [al3, List.mem_cons, List.mem_replicate] at hz
  omega⟩
theorem nRow (w : World) : DigRow w none 0 [] := ⟨rfl, fun p hp => absurd hp (List.not_mem_nil), .inl rfl⟩
theorem nQ_at (w : World) : nQ.At w := ⟨z16_dig, fun h => absurd rfl h, fun s hs => absurd hs (List.not_mem_nil)⟩
theorem nT_at (w : World) : nT.At w := ⟨fun h => absurd rfl h, fun s hs => absurd hs (List.not_mem_nil)⟩
theorem nS_at (w : World) : nS.At w := ⟨nRow w, nRow w⟩
theorem nB_at (w : World) : nB.At w := ⟨z16_dig, nQ_at w, ⟨fun h => absurd rfl h, fun s hs => absurd hs (List.not_mem_nil)⟩, fun h => absurd rfl h, fun s hs => absurd hs (List.not_mem_nil)⟩
theorem alM_at (w : World) : alM.At w := ⟨⟨z16_dig, nS_at w⟩, ⟨nQ_at w, nT_at w, nS_at w⟩, ⟨nB_at w, nT_at w, nS_at w⟩, ⟨al3_dig, z16_dig⟩, nB_at w, nB_at w, nB_at w, nB_at w, nQ_at w⟩
theorem al_bytes : encS alM = (0, 4 :: 3 :: List.replicate 31 0) := by kernel_rfl
set_option maxRecDepth 100000 in
set_option maxHeartbeats 1000000 in
theorem alive9 (w : World) (E : Nat → Addr) (he : ErrAt w w.heap.size 1 (E 0)) (hf : ErrAt w w.heap.size 0 (E 3)) :
    Calls Tryd.prog 5 #[] w fun e w' => e = .returned (.bool true) ∧ w.grownBy w' none := by
  have HE := Lib.hid (fun (x : Array Value) (hx : x = alM.val) => encode_is w he hf alM (alM_at w) x hx)
  clear he hf
  go_enter Tryd.func5, Tryd.ntmps5
  go_wp2_with fail
  refine (HE.out _ (by kernel_rfl)).mono ?_
  rintro e w1 ⟨g1, hcase⟩
  rw [al_bytes] at hcase
  rcases hcase with ⟨_, A, c, rfl, hown⟩ | ⟨h0, _⟩
  · obtain ⟨g, cap, hA⟩ := Joins.ownsRow_form hown (by simp)
    cases hA
    have c0 : w1.cell? ⟨g, 0, none⟩ = some (.int .u8 4) := by
      have := hown.cells (g := g) rfl 0 _ rfl
      rwa [Go.WideShapes.add_plain] at this
    have c1 : w1.cell? ⟨g, 1, none⟩ = some (.int .u8 3) := by
      have := hown.cells (g := g) rfl 1 _ rfl
      rwa [Go.WideShapes.add_plain] at this
    have HG := Lib.hid g1
    clear hown g1
    simp only [List.length_cons, List.length_replicate, Nat.reduceAdd]
    go_wp2_with fail
    go_ret
    exact ⟨rfl, HG.out⟩
  · exact absurd rfl h0
end Go.Proofs.YthjcgdcmbedhnaaDoor
