/-
  What script.Parse gives, for use; alive.
-/
import Derived.Test.YtonkdcbmmdhjgaaGreatDoorScS
import Derived.Test.YtonkdcbmmdhjgaaGreatDoorScK
namespace Go.Proofs.YtonkdcbmmdhjgaaGreatDoor
open Go.RowKit Go.Shelf

theorem opsC_get : ∀ (os : List OpM) (k : Nat) (h : k < os.length) (j : Nat) (v : Value), os[k].val.toList[j]? = some v → (opsC os)[k * 6 + j]? = some v
  | o :: r, 0, _, j, v, hv => by
    have hv : o.val.toList[j]? = some v := hv
    have hj : j < o.val.toList.length := (List.getElem?_eq_some_iff.1 hv).1
    rw [opsC, List.flatMap_cons, Nat.zero_mul, Nat.zero_add, List.getElem?_append_left hj]; exact hv
  | o :: r, k + 1, h, j, v, hv => by
    have ih := opsC_get r k (by simpa using h) j v hv
    have h6 : o.val.toList.length = 6 := rfl
    rw [opsC, List.flatMap_cons, List.getElem?_append_right (by omega), h6, show (k + 1) * 6 + j - 6 = k * 6 + j by omega]
    exact ih
theorem opRow_own {w : World} {base n c : Nat} {A : Option Addr} {os : List OpM} (hn : os.length = n) (h : w.ownsRow base 29 6 (.slice A n c) n (opsC os)) : OpRow w A os := fun hne => by
  rcases h.2 with ⟨e, hl⟩ | ⟨g, cap, cur, e, _, hh, _, _, hs, ht⟩
  · injection e with e1 e2 e3
    subst e1 e2 e3
    exact absurd (List.eq_nil_of_length_eq_zero hn) hne
  · injection e with e1 e2 e3
    subst e1 e3 hn
    refine ⟨g, 0, rfl, fun k hk j v hv => ?_⟩
    have hb : Blk w g 29 cur := hh
    have hj : j < 6 := (List.getElem?_eq_some_iff.1 hv).1
    have h2 := opsC_get os k hk j v hv
    rw [← ht, List.getElem?_take] at h2
    rw [Nat.zero_add, hb.cell (k * 6 + j)]
    split at h2
    · simpa using h2
    · cases h2
theorem fit_of {o : OpV} (hr : rightS o) (hp : plainS o = o) (hl : (lineT o).length ≤ 65535) : o.Fit := by
  have big : ∀ z : Int, 0 ≤ z ∧ z ≤ 999999 → i64 z := fun z h => ⟨by omega, by omega⟩
  have z0 : i64 0 := ⟨by decide, by decide⟩
  have part : ∀ c ∈ (shapeS o.kind).2, (writeS o c).length ≤ 65535 := fun c hc => by
    have h1 := joinP_len 32 ((shapeS o.kind).1 :: (shapeS o.kind).2.map (writeS o)) (by simp)
    have h2 := mem_sum (((shapeS o.kind).1 :: (shapeS o.kind).2.map (writeS o)).map (·.length + 1)) ((writeS o c).length + 1) (List.mem_map.2 ⟨_, List.mem_cons_of_mem _ (List.mem_map.2 ⟨c, hc, rfl⟩), rfl⟩)
    unfold lineT at hl
    omega
  have hex : 120 ∈ (shapeS o.kind).2 → o.data.length ≤ 40000 := fun h => by
    have h1 := part 120 h
    have h2 : (orDash (writeHex o.data)).length ≤ 65535 := h1
    have h3 := writeHex_len o.data
    unfold orDash at h2
    split at h2
    · next e => rw [e] at h3; simp at h3; omega
    · omega
  obtain ⟨kk, nd, nn, st, kp, dt⟩ := o
  simp only at *
  rcases shape_cases kk with (rfl | rfl | rfl | rfl | rfl | rfl | rfl | rfl | rfl | rfl) | ⟨_, h2⟩
  iterate 3
    · injection hp with e1 e2 e3 e4 e5 e6
      replace e2 : (0 : Int) = nd := e2
      replace e4 : ([] : List Int) = st := e4
      replace e5 : ([] : List Bool) = kp := e5
      replace e6 : ([] : List UInt8) = dt := e6
      subst e2 e4 e5 e6
      exact ⟨z0, big _ (hr.2 110 (by simp [shapeS])), by simp, by simp, by simp, by simp⟩
  · injection hp with e1 e2 e3 e4 e5 e6
    replace e3 : (0 : Int) = nn := e3
    replace e4 : ([] : List Int) = st := e4
    replace e5 : ([] : List Bool) = kp := e5
    replace e6 : ([] : List UInt8) = dt := e6
    subst e3 e4 e5 e6
    exact ⟨big _ (hr.2 105 (by simp [shapeS])), z0, by simp, by simp, by simp, by simp⟩
  · injection hp with e1 e2 e3 e4 e5 e6
    replace e3 : (0 : Int) = nn := e3
    replace e4 : ([] : List Int) = st := e4
    replace e5 : ([] : List Bool) = kp := e5
    subst e3 e4 e5
    exact ⟨big _ (hr.2 105 (by simp [shapeS])), z0, by simp, by simp, by simp, hex (by simp [shapeS])⟩
  · injection hp with e1 e2 e3 e4 e5 e6
    replace e3 : (0 : Int) = nn := e3
    replace e5 : ([] : List Bool) = kp := e5
    replace e6 : ([] : List UInt8) = dt := e6
    subst e3 e5 e6
    have h := hr.2 112 (by simp [shapeS])
    exact ⟨big _ (hr.2 105 (by simp [shapeS])), z0, fun z hz => big _ (h.2 z hz), Nat.le_trans h.1 (by decide), by simp, by simp⟩
  · injection hp with e1 e2 e3 e4 e5 e6
    replace e4 : ([] : List Int) = st := e4
    replace e5 : ([] : List Bool) = kp := e5
    replace e6 : ([] : List UInt8) = dt := e6
    subst e4 e5 e6
    exact ⟨big _ (hr.2 105 (by simp [shapeS])), big _ (hr.2 110 (by simp [shapeS])), by simp, by simp, by simp, by simp⟩
  · injection hp with e1 e2 e3 e4 e5 e6
    replace e3 : (0 : Int) = nn := e3
    replace e4 : ([] : List Int) = st := e4
    replace e6 : ([] : List UInt8) = dt := e6
    subst e3 e4 e6
    have h : kp.length ≤ 64 := hr.2 98 (by simp [shapeS])
    exact ⟨big _ (hr.2 105 (by simp [shapeS])), z0, by simp, by simp, Nat.le_trans h (by decide), by simp⟩
  · injection hp with e1 e2 e3 e4 e5 e6
    replace e3 : (0 : Int) = nn := e3
    replace e4 : ([] : List Int) = st := e4
    replace e5 : ([] : List Bool) = kp := e5
    subst e3 e4 e5
    exact ⟨big _ (hr.2 105 (by simp [shapeS])), z0, by simp, by simp, by simp, hex (by simp [shapeS])⟩
  · injection hp with e1 e2 e3 e4 e5 e6
    replace e4 : ([] : List Int) = st := e4
    replace e5 : ([] : List Bool) = kp := e5
    subst e4 e5
    exact ⟨big _ (hr.2 105 (by simp [shapeS])), big _ (hr.2 110 (by simp [shapeS])), by simp, by simp, by simp, hex (by simp [shapeS])⟩
  · exact absurd (by rw [h2]) hr.1
theorem word_pos {o : OpV} (h : rightS o) : 3 ≤ (lineT o).length := by
  have h1 := joinP_len 32 ((shapeS o.kind).1 :: (shapeS o.kind).2.map (writeS o)) (by simp)
  have h2 := mem_sum (((shapeS o.kind).1 :: (shapeS o.kind).2.map (writeS o)).map (·.length + 1)) ((shapeS o.kind).1.length + 1) (by simp)
  have h3 : 3 ≤ (shapeS o.kind).1.length := by
    rcases shape_cases o.kind with (e | e | e | e | e | e | e | e | e | e) | ⟨_, e⟩
    iterate 10 · rw [e]; decide
    · exact absurd (by rw [e]) h.1
  unfold lineT
  omega
theorem text_ops : ∀ os : List OpV, (∀ o ∈ os, rightS o) → 4 * os.length ≤ (textT os).length
  | [], _ => by simp
  | o :: r, h => by
    have h1 := text_ops r fun x hx => h x (List.mem_cons_of_mem _ hx)
    have h2 := word_pos (h o (by simp))
    simp only [textT, List.length_append, List.length_cons]
    omega
theorem text_line : ∀ (os : List OpV) (o : OpV), o ∈ os → (lineT o).length ≤ (textT os).length
  | x :: r, o, h => by
    rcases List.mem_cons.1 h with rfl | h
    · simp [textT]
    · have := text_line r o h
      simp only [textT, List.length_append, List.length_cons]
      omega
/-- Ops that a text gave, in memory. -/
structure Got (w : World) (A : Option Addr) (l : List UInt8) (os : List OpM) : Prop where
  row : OpRow w A os
  lies : ∀ o ∈ os, o.At w
  fit : ∀ o ∈ os, o.v.Fit
  few : os.length ≤ 20000
  right : ∀ o ∈ os, rightS o.v ∧ plainS o.v = o.v
  text : textT (os.map (·.v)) = l
theorem Got.gr {w w' : World} {A : Option Addr} {l : List UInt8} {os : List OpM} (h : Got w A l os) (g : w.grownBy w' none) : Got w' A l os := ⟨h.row.gr g, fun o ho => (h.lies o ho).gr g, h.fit, h.few, h.right, h.text⟩
/-- What Parse leaves. -/
def GotPost (w : World) (EF : Addr) (l : List UInt8) (e : Ending) (w' : World) : Prop := w.grownBy w' none ∧ match parseLs (splitP 10 l) with
  | none => e = .returned (.tuple #[.slice none 0 0, errV EF])
  | some vs => ∃ os : List OpM, os.map (·.v) = vs ∧ ∃ A c, e = .returned (.tuple #[.slice A os.length c, .nilIface]) ∧ Got w' A l os
theorem got_is (s : ByteArray) (w : World) (he : ScEnv w) (EL EF : Addr) (hEL : ErrAt w w.heap.size 3 EL) (hEF : ErrAt w w.heap.size 0 EF) (l : List UInt8) (hl : s.data.toList = l) (h : l.length ≤ 65535) :
    Calls Tryz.prog 9 #[.string s] w (GotPost w EF l) := by
  have hz : l.length = s.size := by rw [← hl]; exact Array.length_toList
  have hp := parseT_is s (by omega) w he EL EF hEL hEF
  rw [hl] at hp
  refine hp.mono ?_
  rintro e w' ⟨g, hc⟩
  refine ⟨g, ?_⟩
  rcases hc with ⟨hlo, _⟩ | ⟨_, hn, rfl⟩ | ⟨_, os, hs, A, c, rfl, hown, ho⟩
  · omega
  · rw [hn]
  · rw [hs]
    have hb := parseLs_back' hs
    have hm : ∀ o ∈ os, rightS o.v ∧ plainS o.v = o.v := fun o ho => hb.2 o.v (List.mem_map.2 ⟨o, ho, rfl⟩)
    refine ⟨os, rfl, A, c, rfl, ⟨opRow_own rfl hown, fun o h => (ho o h).at, fun o h => fit_of (hm o h).1 (hm o h).2 ?_, ?_, hm, hb.1⟩⟩
    · have := text_line _ o.v (List.mem_map.2 ⟨o, h, rfl⟩)
      rw [hb.1] at this
      omega
    · have := text_ops _ fun o ho => (hb.2 o ho).1
      rw [hb.1, List.length_map] at this
      omega
end Go.Proofs.YtonkdcbmmdhjgaaGreatDoor
