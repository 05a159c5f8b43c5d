/-
  Several texts in one: RfF, RfOf.
-/
import Derived.Test.YtebnebajedlhlaaDoorM9ii
import Derived.Test.YtebnebajedlhlaaDoorM9ij
import Derived.Test.YtebnebajedlhlaaDoorM9im
/-
  quorateref02.Framed.
-/
namespace Go.Proofs.YtebnebajedlhlaaDoor
open Go.RowKit

theorem xsOf_append (a b : ByteArray) : xsOf (a ++ b) = xsOf a ++ xsOf b := by simp [xsOf, ByteArray.data_append]
theorem xsOf_mk (l : List UInt8) : xsOf ⟨l.toArray⟩ = intsB l := by simp [xsOf, intsB]
theorem xsOf_ints (s : ByteArray) : xsOf s = intsB s.data.toList := rfl
theorem ints_str (L : List Int) (h : ∀ z ∈ L, 0 ≤ z ∧ z < 256) : ∃ s : ByteArray, xsOf s = L := by
  refine ⟨⟨(L.map fun z => UInt8.ofNat z.toNat).toArray⟩, ?_⟩
  rw [xsOf_mk, intsB, List.map_map]
  conv => rhs; rw [← List.map_id L]
  apply List.map_congr_left
  intro z hz
  have := h z hz
  simp
  omega
theorem intsB_inj : ∀ {a b : List UInt8}, intsB a = intsB b → a = b
  | [], [], _ => rfl
  | [], _ :: _, h => by simp [intsB] at h
  | _ :: _, [], h => by simp [intsB] at h
  | x :: a, y :: b, h => by
    simp only [intsB, List.map_cons, List.cons.injEq] at h
    rw [intsB_inj (a := a) (b := b) h.2, UInt8.toNat_inj.1 (by omega : x.toNat = y.toNat)]
theorem xsOf_inj {a b : ByteArray} (h : xsOf a = xsOf b) : a = b := by
  have := intsB_inj h
  apply ByteArray.ext
  exact Array.toList_inj.1 this
/-- A row of bytes as a string. -/
theorem str_run (w : World) (A : Option Addr) (n cap : Nat) (s : ByteArray) (hn : s.size = n) (hx : BytesI w A (xsOf s)) : Sem.run Tryd.prog (convert 33 9 (.slice A n cap)) w = .ok (.string s) w := by
  subst hn
  cases A with
  | none =>
    have h0 : s.size = 0 := by
      by_cases h : xsOf s = []
      · rw [← xsOf_length, h]; rfl
      · obtain ⟨ad, e, _⟩ := hx h; cases e
    have hs : s = ByteArray.empty := by
      apply xsOf_inj
      have h1 : (xsOf s).length = 0 := by rw [xsOf_length, h0]
      rw [List.eq_nil_of_length_eq_zero h1]; rfl
    rw [run_convert_bytes_string w 33 9 5 none s.size cap Tryd.underlying33 Tryd.underlying5 Tryd.underlying9, hs]
    simp [Conv.bytesToString]
  | some ad =>
    have h := run_convert_bytes_back w 33 9 5 ad cap s.data.toList Tryd.underlying33 Tryd.underlying5 Tryd.underlying9 (fun j hj => by
      have hne : xsOf s ≠ [] := by intro e; have := congrArg List.length e; rw [xsOf_length] at this; have h2 : s.data.toList.length = s.size := rfl; simp only [List.length_nil] at this; omega
      obtain ⟨ad', e, hc⟩ := hx hne
      obtain rfl := Option.some.inj e
      have h2 : s.data.toList.length = s.size := rfl
      rw [hc j (by rw [xsOf_length]; omega)]
      simp [xsOf, List.getD, List.getElem?_eq_getElem (show j < s.data.size by simpa using hj)])
    have h2 : s.data.toList.length = s.size := rfl
    rw [h2] at h
    simpa using h
/-- The text whose hash a short hash is. -/
def framedL (a0 : Int) (ps : List (List Int)) : List Int := a0 % 256 :: ps.flatMap fun p => wordB ((p.length : Int) % 4294967296) ++ p
theorem write_parts : ∀ (ps : List (List Int)) (s : HS), writeS s (ps.flatMap fun p => wordB ((p.length : Int) % 4294967296) ++ p) = ps.foldl partS s
  | [], s => rfl
  | p :: ps, s => by
    rw [List.flatMap_cons, writeS_append, writeS_append, write_parts ps]; rfl
theorem of_hash (a0 : Int) (ps : List (List Int)) : ofS a0 ps = (hashS (framedL a0 ps)).take 16 := by
  rw [ofS, hashS, framedL, framedS, ← write_parts, ← writeS_append]; rfl
theorem framedL_succ (a0 : Int) (ps : List (List Int)) (k : Nat) (h : k < ps.length) : framedL a0 (ps.take (k + 1)) = framedL a0 (ps.take k) ++ (wordB (((ps.getD k []).length : Int) % 4294967296) ++ ps.getD k []) := by
  rw [take_push' ps k [] h]
  simp [framedL]
theorem framedL_le (a0 : Int) (B : Nat) : ∀ ps : List (List Int), (∀ p ∈ ps, p.length ≤ B) → (framedL a0 ps).length ≤ 1 + ps.length * (B + 4)
  | [], _ => by simp [framedL]
  | p :: ps, h => by
    have ih := framedL_le a0 B ps (fun q hq => h q (by simp [hq]))
    have h1 := h p (by simp)
    have h4 : (wordB ((p.length : Int) % 4294967296)).length = 4 := rfl
    simp only [framedL, List.length_cons, List.flatMap_cons, List.length_append, Nat.succ_mul] at ih ⊢
    omega
/-- The texts lie at A. -/
def TextsI (w : World) (A : Option Addr) (ts : List ByteArray) : Prop := ∀ j, j < ts.length → ∃ ad, A = some ad ∧ w.cell? (ad.add j) = some (.string (ts.getD j ByteArray.empty))
theorem TextsI.grown {w w' : World} {A : Option Addr} {ts : List ByteArray} (h : TextsI w A ts) (hg : w.grownBy w' none) : TextsI w' A ts := fun j hj => by
  obtain ⟨ad, e, h1⟩ := h j hj
  exact ⟨ad, e, hg.cell h1 (by simp)⟩
theorem cat_run (w : World) (a b : ByteArray) (ha : a.size ≤ 1000000) (hb : b.size ≤ 1000000) : (Op.stringOp .add a b).run Tryd.prog w = .ok (.string (a ++ b)) w := run_string_add_sum w a b (by omega)

end Go.Proofs.YtebnebajedlhlaaDoor
/-
  quorateref02.Of.
-/
namespace Go.Proofs.YtebnebajedlhlaaDoor
open Go.RowKit

theorem fill_set (F : List Int) (m k : Nat) (hl : F.length = m) (hk : k < m) : (F.take k ++ List.replicate (m - k) 0).set k (F.getD k 0) = F.take (k + 1) ++ List.replicate (m - (k + 1)) 0 := by
  have hlk : (F.take k).length = k := by rw [List.length_take]; omega
  obtain ⟨q, hq⟩ : ∃ q, m - k = q + 1 := ⟨m - k - 1, by omega⟩
  rw [List.set_append_right _ _ (by omega), hlk, Nat.sub_self, hq, show m - (k + 1) = q by omega, List.replicate_succ, List.set_cons_zero, List.take_add_one, List.getD, List.getElem?_eq_getElem (by omega)]
  simp only [Option.getD_some, Option.toList_some, List.append_assoc, List.singleton_append]

end Go.Proofs.YtebnebajedlhlaaDoor
