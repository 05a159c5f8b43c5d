/-
  alive; ScriptAgain.
-/
import Derived.Test.YtonkdcbmmdhjgaaGreatDoorScT
namespace Go.Proofs.YtonkdcbmmdhjgaaGreatDoor
open Go.RowKit Go.Shelf

def tickV : OpV := ⟨4, 0, 0, [], [], []⟩
def delivV : OpV := ⟨1, 0, 0, [], [], []⟩
theorem itoa_zero : Lib.itoa 0 = [48] := by
  have := Lib.itoa_nonneg 0
  rw [show ((0 : Nat) : Int) = 0 from rfl] at this
  rw [this, Lib.decDigits_one (by decide)]; rfl
theorem line_tick : lineT tickV = [116, 105, 99, 107, 32, 48] := by
  simp [lineT, tickV, shapeS, writeS, itoa_zero, joinP]
theorem line_deliv : lineT delivV = [100, 101, 108, 105, 118, 101, 114, 32, 48] := by
  simp [lineT, delivV, shapeS, writeS, itoa_zero, joinP]
theorem right_tick : rightS tickV ∧ plainS tickV = tickV := ⟨⟨by decide, fun c hc => by
  obtain rfl : c = 105 := by simpa [tickV, shapeS] using hc
  decide⟩, rfl⟩
theorem right_deliv : rightS delivV ∧ plainS delivV = delivV := ⟨⟨by decide, fun c hc => by
  obtain rfl : c = 110 := by simpa [delivV, shapeS] using hc
  decide⟩, rfl⟩
theorem alive_parse : parseLs (splitP 10 [116, 105, 99, 107, 32, 48, 10, 100, 101, 108, 105, 118, 101, 114, 32, 48, 10]) = some [tickV, delivV] := by
  have h := parseLs_text [tickV, delivV] (fun o ho => by
    rcases (show o = tickV ∨ o = delivV by simpa using ho) with rfl | rfl
    · exact right_tick.1
    · exact right_deliv.1)
  simp only [textT, line_tick, line_deliv, List.map_cons, List.map_nil, right_tick.2, right_deliv.2] at h
  exact h
theorem two_ops {os : List OpM} {a b : OpV} (h : os.map (·.v) = [a, b]) : ∃ x y, os = [x, y] ∧ x.v = a ∧ y.v = b := by
  obtain ⟨x, l, rfl, hx, hl⟩ := List.map_eq_cons_iff.1 h
  obtain ⟨y, l2, rfl, hy, hl2⟩ := List.map_eq_cons_iff.1 hl
  obtain rfl := List.map_eq_nil_iff.1 hl2
  exact ⟨x, y, rfl, hx, hy⟩
set_option maxRecDepth 100000 in
set_option maxHeartbeats 2000000 in
theorem alive_is (w : World) (he : ScEnv w) (EL EF : Addr) (hEL : ErrAt w w.heap.size 3 EL) (hEF : ErrAt w w.heap.size 0 EF) :
    Calls Tryz.prog 4 #[] w fun e w' => e = .returned (.bool true) ∧ w.grownBy w' none := by
  have HP := Lib.hid (got_is ⟨#[116, 105, 99, 107, 32, 48, 10, 100, 101, 108, 105, 118, 101, 114, 32, 48, 10]⟩ w he EL EF hEL hEF _ rfl (by decide))
  clear he hEL hEF
  go_enter Tryz.func4, Tryz.ntmps4
  go_wp2_with fail
  refine HP.out.mono ?_
  rintro e w1 ⟨g1, hpost⟩
  rw [alive_parse] at hpost
  obtain ⟨os, hos, A, c, rfl, hgot⟩ := hpost
  obtain ⟨x, y, rfl, hx, hy⟩ := two_ops hos
  obtain ⟨b, off, rfl, hc⟩ := hgot.row (by simp)
  have c0 : w1.cell? ⟨b, off, none⟩ = some (.int .i64 4) := by
    have h := hc 0 (by simp) 0 _ rfl
    have e : x.v.kind = 4 := by rw [hx]; rfl
    simp only [List.getElem_cons_zero, Nat.zero_mul, Nat.add_zero, e] at h
    exact h
  have c6 : w1.cell? ⟨b, off + 6, none⟩ = some (.int .i64 1) := by
    have h := hc 1 (by simp) 0 _ rfl
    have e : y.v.kind = 1 := by rw [hy]; rfl
    simp only [List.getElem_cons_succ, List.getElem_cons_zero, Nat.one_mul, Nat.add_zero, e] at h
    exact h
  have HG := Lib.hid g1
  clear hgot hc hos hx hy g1
  go_wp2_with fail
  go_ret
  exact ⟨rfl, HG.out⟩
end Go.Proofs.YtonkdcbmmdhjgaaGreatDoor
