/-
  An argument opened: a row of digests.
-/
import Derived.Test.YtpdfkgmgmndcfaaDoorM20s
import Derived.Test.YtpdfkgmgmndcfaaDoorM20O
import Derived.Test.YtpdfkgmgmndcfaaDoorM20n
namespace Go.Proofs.YtpdfkgmgmndcfaaDoor
open Go.ChangeShapes Go.WideShapes Go.ChangeAt Go.RowKit

section
variable {H : Type} {enc : TypeId × Value → H} {w : World} {base : Nat} {spare : Nat → Bool} {held : Bool} {fuel : Nat} {cs : List Value} {x : DataW H × List MemPlace}
theorem cellsOf_digest : Tryd.prog.cellsOf 24 = 16 := by kernel_rfl
theorem open_digs (h : DataW.trod enc Tryd.prog w base spare held fuel 43 cs = some x) :
    ∃ A n c, ∃ ps : List (List Int), cs = [.slice A n c] ∧ ps.length = n ∧ n ≤ c ∧ (∀ p ∈ ps, isDig p) ∧ (ps ≠ [] → ∃ ad, A = some ad ∧ ∀ i (_ : i < ps.length), ∀ j, j < 16 → w.cell? (ad.add (i * 16 + j)) = (ps[i].map (Value.int .u8))[j]?) := by
  obtain ⟨A, n, c, ps, hcs, hn, hc, hat⟩ := open_elems Tryd.underlying43 cellsOf_digest (fun (l : List Int) es => es = l.map (Value.int .u8) ∧ isDig l) zeroC (fun h => by
    obtain ⟨l, h1, h2, _, h4⟩ := arr_of_trod (n := 16) Tryd.underlying24 Tryd.underlying5 (by kernel_rfl) (by kernel_rfl) h
    exact ⟨l, h1, h2, fun z hz => by
      have := h4 z hz
      simp [Lit.wf, IntKind.min, IntKind.max, IntKind.signed, IntKind.bits] at this
      omega⟩) h
  refine ⟨A, n, c, ps, hcs, hn, hc, fun p hp => ?_, fun hne => ?_⟩
  · have hne : ps ≠ [] := by rintro rfl; cases hp
    obtain ⟨ad, _, hat2⟩ := hat hne
    obtain ⟨i, hi, rfl⟩ := List.mem_iff_getElem.1 hp
    obtain ⟨es, ⟨_, h2⟩, _⟩ := hat2 i hi
    exact h2
  · obtain ⟨ad, eA, hat2⟩ := hat hne
    refine ⟨ad, eA, fun i hi j hj => ?_⟩
    obtain ⟨es, ⟨rfl, _⟩, _, h3⟩ := hat2 i hi
    exact h3 j hj
set_option maxRecDepth 100000 in
theorem arg_digs {v : Value} {d : DataW H} {p : List MemPlace} {b0 : Nat} (hv : Value.okWide Tryd.prog w .any b0 43 v) (h : DataW.Trod enc Tryd.prog w base spare held 43 v d p) :
    ∃ A n c, ∃ ps : List (List Int), v = .slice A n c ∧ ps.length = n ∧ n ≤ c ∧ (∀ p ∈ ps, isDig p) ∧ (ps ≠ [] → ∃ ad, A = some ad ∧ ∀ i (_ : i < ps.length), ∀ j, j < 16 → w.cell? (ad.add (i * 16 + j)) = (ps[i].map (Value.int .u8))[j]?) := by
  obtain ⟨a0, len, cap, rfl⟩ := okWide_slice Tryd.underlying43 hv
  obtain ⟨fuel, hf⟩ := h
  obtain ⟨A, n, c, xs, hcs, hn, hc, hb⟩ := open_digs hf
  have e : Value.slice a0 len cap = .slice A n c := (List.cons.inj (show [Value.slice a0 len cap] = [Value.slice A n c] from hcs)).1
  exact ⟨A, n, c, xs, e, hn, hc, hb⟩
end
/-- Its place: a block and an offset. -/
theorem digs_at {w : World} {A : Option Addr} {ps : List (List Int)} (hne : ps ≠ []) (hd : ∀ p ∈ ps, isDig p) (h : ps ≠ [] → ∃ ad, A = some ad ∧ ∀ i (_ : i < ps.length), ∀ j, j < 16 → w.cell? (ad.add (i * 16 + j)) = (ps[i].map (Value.int .u8))[j]?) :
    ∃ b off, A = some ⟨b, off, none⟩ ∧ DigsAt w b off ps := by
  obtain ⟨⟨b, off, spot⟩, rfl, hc⟩ := h hne
  have hl : 0 < ps.length := List.length_pos_iff.2 hne
  have h0 := hc 0 hl 0 (by omega)
  have hl16 := (hd _ (List.getElem_mem hl)).1
  rw [List.getElem?_eq_getElem (by rw [List.length_map, hl16]; omega)] at h0
  have hspot : spot = none := by simpa [Addr.add] using World.cell?_spot h0
  subst hspot
  refine ⟨b, off, rfl, fun j hj i v hv => ?_⟩
  have hg : ps.getD j zeroC = ps[j] := by rw [List.getD, List.getElem?_eq_getElem hj]; rfl
  rw [hg] at hv
  have hi : i < 16 := by
    have := (List.getElem?_eq_some_iff.1 hv).1
    rw [Array.length_toList, arr_size, (hd _ (List.getElem_mem hj)).1] at this
    exact this
  have := hc j hj i hi
  rw [Addr.add_mid] at this
  rw [Nat.add_assoc, this]
  simpa [arrV] using hv
end Go.Proofs.YtpdfkgmgmndcfaaDoor
