/-
  alive; ScriptAgain.
-/
import Derived.Test.YtonkdcbmmdhjgaaDoorScT
namespace Go.Proofs.YtonkdcbmmdhjgaaDoor
open Go.RowKit Go.Shelf

def tickV : OpV := ⟨4, 0, 0, [], [], []⟩
def delivV : OpV := ⟨1, 0, 0, [], [], []⟩
theorem itoa_zero : Lib.itoa 0 = [48] := by
  have := Lib.itoa_nonneg 0
  rw [show ((0 : Nat) : Int) = 0 from rfl] at this
  rw [this, Lib.decDigits_one (by decide)]; rfl
theorem line_tick : lineT tickV = [116, 105, 99, 107, 32, 48] := by
  simp [lineT, tickV, shapeS, writeS, itoa_zero, joinP]
theorem line_deliv : lineT delivV = [100, 101, 108, 105, 118, 101, 114, 32, 48] := by
  simp [lineT, delivV, shapeS, writeS, itoa_zero, joinP]
theorem right_tick : rightS tickV ∧ plainS tickV = tickV := ⟨⟨by decide, fun c hc => by
  obtain rfl : c = 105 := by simpa [tickV, shapeS] using hc
  decide⟩, rfl⟩
theorem right_deliv : rightS delivV ∧ plainS delivV = delivV := ⟨⟨by decide, fun c hc => by
  obtain rfl : c = 110 := by simpa [delivV, shapeS] using hc
  decide⟩, rfl⟩
theorem alive_parse : parseLs (splitP 10 [116, 105, 99, 107, 32, 48, 10, 100, 101, 108, 105, 118, 101, 114, 32, 48, 10]) = some [tickV, delivV] := by
  have h := parseLs_text [tickV, delivV] (fun o ho => by
    rcases (show o = tickV ∨ o = delivV by simpa using ho) with rfl | rfl
    · exact right_tick.1
    · exact right_deliv.1)
  simp only [textT, line_tick, line_deliv, List.map_cons, List.map_nil, right_tick.2, right_deliv.2] at h
  exact h
theorem two_ops {os : List OpM} {a b : OpV} (h : os.map (·.v) = [a, b]) : ∃ x y, os = [x, y] ∧ x.v = a ∧ y.v = b := by
  obtain ⟨x, l, rfl, hx, hl⟩ := List.map_eq_cons_iff.1 h
  obtain ⟨y, l2, rfl, hy, hl2⟩ := List.map_eq_cons_iff.1 hl
  obtain rfl := List.map_eq_nil_iff.1 hl2
  exact ⟨x, y, rfl, hx, hy⟩
set_option maxRecDepth 100000 in
set_option maxHeartbeats 2000000 in
theorem alive_is (w : World) (he : ScEnv w) (EL EF : Addr) (hEL : ErrAt w w.heap.size 0 EL) (hEF : ErrAt w w.heap.size 1 EF) :
    Calls Tryd.prog 7 #[] w fun e w' => e = .returned (.bool true) ∧ w.grownBy w' none := by
  have HP := Lib.hid (got_is ⟨#[116, 105, 99, 107, 32, 48, 10, 100, 101, 108, 105, 118, 101, 114, 32, 48, 10]⟩ w he EL EF hEL hEF _ rfl (by decide))
  clear he hEL hEF
  go_enter Tryd.func7, Tryd.ntmps7
  go_wp2_with fail
  refine HP.out.mono ?_
  rintro e w1 ⟨g1, hpost⟩
  rw [alive_parse] at hpost
  obtain ⟨os, hos, A, c, rfl, hgot⟩ := hpost
  obtain ⟨x, y, rfl, hx, hy⟩ := two_ops hos
  obtain ⟨b, off, rfl, hc⟩ := hgot.row (by simp)
  have c0 : w1.cell? ⟨b, off, none⟩ = some (.int .i64 4) := by
    have h := hc 0 (by simp) 0 _ rfl
    have e : x.v.kind = 4 := by rw [hx]; rfl
    simp only [List.getElem_cons_zero, Nat.zero_mul, Nat.add_zero, e] at h
    exact h
  have c6 : w1.cell? ⟨b, off + 6, none⟩ = some (.int .i64 1) := by
    have h := hc 1 (by simp) 0 _ rfl
    have e : y.v.kind = 1 := by rw [hy]; rfl
    simp only [List.getElem_cons_succ, List.getElem_cons_zero, Nat.one_mul, Nat.add_zero, e] at h
    exact h
  have HG := Lib.hid g1
  clear hgot hc hos hx hy g1
  go_wp2_with fail
  go_ret
  exact ⟨rfl, HG.out⟩
set_option maxRecDepth 100000 in
set_option maxHeartbeats 2000000 in
theorem again_is (s : ByteArray) (w : World) (he : ScEnv w) (EL EF : Addr) (hEL : ErrAt w w.heap.size 0 EL) (hEF : ErrAt w w.heap.size 1 EF) :
    Calls Tryd.prog 6 #[.string s] w fun e w' => e = .returned (.bool true) ∧ w.grownBy w' none := by
  have HA := Lib.hid (alive_is w he EL EF hEL hEF)
  have HE := Lib.hid (And.intro he (And.intro hEL hEF))
  clear he hEL hEF
  go_enter Tryd.func6, Tryd.ntmps6
  go_wp2_with fail
  refine HA.out.mono ?_
  rintro e w1 ⟨rfl, k1⟩
  have K1 := Lib.hid k1
  by_cases hs : 2000 < s.size
  · have d1 : decide ((2000 : Int) < (s.size : Int)) = true := by simp; omega
    clear k1
    go_wp2_with fail
    go_ret
    exact ⟨rfl, K1.out⟩
  · have d1 : decide ((2000 : Int) < (s.size : Int)) = false := by simp; omega
    have hl : s.data.toList.length ≤ 65535 := by have : s.data.toList.length = s.size := Array.length_toList; omega
    have h1 := HE.out.1.grown k1
    have h2 : ErrAt w1 w1.heap.size 0 EL := ⟨k1.cell HE.out.2.1.1 (by simp), Nat.lt_of_lt_of_le HE.out.2.1.2 k1.size⟩
    have h3 : ErrAt w1 w1.heap.size 1 EF := ⟨k1.cell HE.out.2.2.1 (by simp), Nat.lt_of_lt_of_le HE.out.2.2.2 k1.size⟩
    have HP := Lib.hid (And.intro (got_is s w1 h1 EL EF h2 h3 _ rfl hl) (And.intro h1 (And.intro h2 (And.intro h3 hl))))
    clear k1 h1 h2 h3 hl
    go_wp2_with fail
    refine HP.out.1.mono ?_
    rintro e w2 ⟨k2, hpost⟩
    have K2 := Lib.hid (grown_trans K1.out k2)
    cases hp : parseLs (splitP 10 s.data.toList) with
    | none =>
      rw [hp] at hpost
      subst hpost
      clear hp k2
      go_wp2_with fail
      go_ret
      exact ⟨rfl, K2.out⟩
    | some vs =>
      rw [hp] at hpost
      obtain ⟨os, rfl, A, c, rfl, hgot⟩ := hpost
      obtain ⟨_, h1, h2, h3, hl⟩ := HP.out
      have HT := Lib.hid (text_is w2 (h1.grown k2) EL EF ⟨k2.cell h2.1 (by simp), Nat.lt_of_lt_of_le h2.2 k2.size⟩ ⟨k2.cell h3.1 (by simp), Nat.lt_of_lt_of_le h3.2 k2.size⟩ A os.length c os rfl hgot.row hgot.lies hgot.fit hgot.few)
      have HG := Lib.hid (And.intro hgot hl)
      obtain ⟨n, hn⟩ : ∃ n, n = os.length := ⟨_, rfl⟩
      rw [← hn] at HT ⊢
      clear h1 h2 h3 hl hgot hp k2 hn
      go_wp2_with fail
      refine HT.out.mono ?_
      rintro e w3 ⟨k3, hpost⟩
      rw [if_pos (fun o ho => by
        obtain ⟨y, hy, rfl⟩ := List.mem_map.1 ho
        exact (HG.out.1.right y hy).1), HG.out.1.text, if_neg (by have := HG.out.2; omega), strB_of] at hpost
      subst hpost
      have K3 := Lib.hid (grown_trans K2.out k3)
      clear k3
      go_wp2_with fail
      go_ret
      exact ⟨rfl, K3.out⟩
end Go.Proofs.YtonkdcbmmdhjgaaDoor
