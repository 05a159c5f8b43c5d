/- DiK, TrS, TrV, TrW, Sm -/
import Derived.Test.YtigafnbofmiknaaGreatDoorW20h
import Derived.Test.YtigafnbofmiknaaGreatDoorW20m
import Derived.Test.YtigafnbofmiknaaGreatDoorW20e
import Derived.Test.YtigafnbofmiknaaGreatDoorW20l
import Derived.Deep.MidRow
import Derived.Test.YtigafnbofmiknaaGreatDoorW20k
namespace Go.Proofs.YtigafnbofmiknaaGreatDoor
set_option maxRecDepth 100000
set_option maxHeartbeats 10000000
open Go.RowKit
section
open Go.ChangeShapes Go.WideShapes Go.ChangeAt Go.RowKit
section
variable {H : Type} {enc : TypeId × Value -> H} {w : World} {base : Nat} {spare : Nat -> Bool} {held : Bool} {fuel : Nat} {cs : List Value} {x : DataW H × List MemPlace}
theorem cellsOf_digest : Tryz.prog.cellsOf 24 = 16 := by kernel_rfl
theorem open_digs (h : DataW.trod enc Tryz.prog w base spare held fuel 85 cs = some x) :
    ∃ A n c, ∃ ps : List (List Int), cs = [.slice A n c] /\ ps.length = n /\ n <= c /\ (∀ p ∈ ps, isDig p) /\ (ps ≠ [] -> ∃ ad, A = some ad /\ ∀ i (_ : i < ps.length), ∀ j, j < 16 -> w.cell? (ad.add (i * 16 + j)) = (ps[i].map (Value.int .u8))[j]?) := by
 obtain ⟨A, n, c, ps, hcs, hn, hc, hat⟩ := zbt Tryz.underlying85 cellsOf_digest (fun (l : List Int) es => es = l.map (Value.int .u8) /\ isDig l) zeroC (fun h => by
  obtain ⟨l, h1, h2, _, h4⟩ := um (n := 16) Tryz.underlying24 Tryz.underlying5 (by kernel_rfl) (by kernel_rfl) h
  exact ⟨l, h1, h2, fun z hz => by
   have := h4 z hz
   simp [Lit.wf, IntKind.min, IntKind.max, IntKind.signed, IntKind.bits] at this
   omega⟩) h
 refine ⟨A, n, c, ps, hcs, hn, hc, fun p hp => ?_, fun hne => ?_⟩
 · have hne : ps ≠ [] := by rintro rfl; cases hp
   obtain ⟨ad, _, hat2⟩ := hat hne
   obtain ⟨i, hi, rfl⟩ := List.mem_iff_getElem.1 hp
   obtain ⟨es, ⟨_, h2⟩, _⟩ := hat2 i hi
   exact h2
 · obtain ⟨ad, eA, hat2⟩ := hat hne
   refine ⟨ad, eA, fun i hi j hj => ?_⟩
   obtain ⟨es, ⟨rfl, _⟩, _, h3⟩ := hat2 i hi
   exact h3 j hj
end
theorem digs_at {w : World} {A : Option Addr} {ps : List (List Int)} (hne : ps ≠ []) (hd : ∀ p ∈ ps, isDig p) (h : ps ≠ [] -> ∃ ad, A = some ad /\ ∀ i (_ : i < ps.length), ∀ j, j < 16 -> w.cell? (ad.add (i * 16 + j)) = (ps[i].map (Value.int .u8))[j]?) :
    ∃ b off, A = some ⟨b, off, none⟩ /\ DigsAt w b off ps := by
 obtain ⟨⟨b, off, spot⟩, rfl, hc⟩ := h hne
 have hl : 0 < ps.length := List.length_pos_iff.2 hne
 have h0 := hc 0 hl 0 (by omega)
 have hl16 := (hd _ (List.getElem_mem hl)).1
 rw [List.getElem?_eq_getElem (by rw [List.length_map, hl16]; omega)] at h0
 have hspot : spot = none := by simpa [Addr.add] using World.cell?_spot h0
 subst hspot
 refine ⟨b, off, rfl, fun j hj i v hv => ?_⟩
 have hg : ps.getD j zeroC = ps[j] := by rw [List.getD, List.getElem?_eq_getElem hj]; rfl
 rw [hg] at hv
 have hi : i < 16 := by
  have := (List.getElem?_eq_some_iff.1 hv).1
  rw [Array.length_toList, zf, (hd _ (List.getElem_mem hj)).1] at this
  exact this
 have := hc j hj i hi
 rw [Addr.add_mid] at this
 rw [Nat.add_assoc, this]
 simpa [arrV] using hv
end
section
open Go.RowKit
end
section
open Go.RowKit
end
section
open Go.RowKit Go.Shelf
attribute [local go_sem] Oper.semAt_some
end
section
open Go.RowKit
end
end Go.Proofs.YtigafnbofmiknaaGreatDoor
