/-
  Several texts in one: ArgL, DiK, TrS, TrV.
-/
import Derived.Test.YtmoebkdbnldbdaaGreatDoorM20ph
import Derived.Test.YtmoebkdbnldbdaaGreatDoorM20pC
import Derived.Test.YtmoebkdbnldbdaaGreatDoorM20pj
import Derived.Test.YtmoebkdbnldbdaaGreatDoorM20pB
/-
  An argument opened: a slice of anything, of slices of bytes.
-/
namespace Go.Proofs.YtmoebkdbnldbdaaGreatDoor
open Go.ChangeShapes Go.WideShapes Go.ChangeAt Go.RowKit

/-- The bytes' lists ps lie at A, each as a slice. -/
def ListsAt (w : World) (A : Option Addr) (ps : List (List UInt8)) : Prop := ps ≠ [] → ∃ ad, A = some ad ∧ ∀ j (_ : j < ps.length), ∃ B c, w.cell? (ad.add j) = some (.slice B ps[j].length c) ∧ ps[j].length ≤ c ∧ BytesAt w B ps[j]
section
variable {H : Type} {enc : TypeId × Value → H} {w : World} {base : Nat} {spare : Nat → Bool} {held : Bool} {fuel : Nat} {cs : List Value} {x : DataW H × List MemPlace}
theorem cellsOf_bytes : Tryz.prog.cellsOf 61 = 1 := by kernel_rfl
theorem open_lists (h : DataW.trod enc Tryz.prog w base spare held fuel 47 cs = some x) :
    ∃ A n c, ∃ ps : List (List UInt8), cs = [.slice A n c] ∧ ps.length = n ∧ n ≤ c ∧ ListsAt w A ps := by
  obtain ⟨A, n, c, ps, hcs, hn, hc, hat⟩ := open_elems Tryz.underlying47 cellsOf_bytes (fun (l : List UInt8) es => ∃ B m c, es = [.slice B m c] ∧ l.length = m ∧ m ≤ c ∧ BytesAt w B l) [] (fun h => by
    obtain ⟨B, m, c, l, h1, h2, h3, _, h4, _⟩ := open_bytes h
    exact ⟨l, B, m, c, h1, h2, h3, h4⟩) h
  refine ⟨A, n, c, ps, hcs, hn, hc, fun hne => ?_⟩
  obtain ⟨ad, eA, hat2⟩ := hat hne
  refine ⟨ad, eA, fun j hj => ?_⟩
  obtain ⟨es, ⟨B, m, c', rfl, h2, h3, h4⟩, _, hcell⟩ := hat2 j hj
  subst h2
  exact ⟨B, c', by have := hcell 0 (by omega); rw [Nat.mul_one, Nat.add_zero] at this; exact this, h3, h4⟩
set_option maxRecDepth 100000 in
theorem arg_lists {v : Value} {d : DataW H} {p : List MemPlace} {b0 : Nat} (hv : Value.okWide Tryz.prog w .any b0 47 v) (h : DataW.Trod enc Tryz.prog w base spare held 47 v d p) :
    ∃ A n c, ∃ ps : List (List UInt8), v = .slice A n c ∧ ps.length = n ∧ n ≤ c ∧ ListsAt w A ps := by
  obtain ⟨a0, len, cap, rfl⟩ := okWide_slice Tryz.underlying47 hv
  obtain ⟨fuel, hf⟩ := h
  obtain ⟨A, n, c, xs, hcs, hn, hc, hb⟩ := open_lists hf
  have e : Value.slice a0 len cap = .slice A n c := (List.cons.inj (show [Value.slice a0 len cap] = [Value.slice A n c] from hcs)).1
  exact ⟨A, n, c, xs, e, hn, hc, hb⟩
end
theorem ListsAt.grown {w w' : World} {A : Option Addr} {ps : List (List UInt8)} (h : ListsAt w A ps) (hg : w.grownBy w' none) : ListsAt w' A ps := fun hne => by
  obtain ⟨ad, e, hat⟩ := h hne
  refine ⟨ad, e, fun j hj => ?_⟩
  obtain ⟨B, c, h1, h2, h3⟩ := hat j hj
  exact ⟨B, c, hg.cell h1 (by simp), h2, h3.grown hg (by simp)⟩
theorem ListsAt.get {w : World} {A : Option Addr} {ps : List (List UInt8)} (h : ListsAt w A ps) (k : Nat) (hk : k < ps.length) : ∃ ad B c, A = some ad ∧ w.cell? (ad.add k) = some (.slice B (ps.getD k []).length c) ∧ (ps.getD k []).length ≤ c ∧ BytesAt w B (ps.getD k []) := by
  obtain ⟨ad, e, hat⟩ := h (by intro e; rw [e] at hk; simp at hk)
  obtain ⟨B, c, h1, h2, h3⟩ := hat k hk
  have : ps.getD k [] = ps[k] := by simp [List.getD, hk]
  rw [this]
  exact ⟨ad, B, c, e, h1, h2, h3⟩
end Go.Proofs.YtmoebkdbnldbdaaGreatDoor
/-
  An argument opened: a row of digests.
-/
namespace Go.Proofs.YtmoebkdbnldbdaaGreatDoor
open Go.ChangeShapes Go.WideShapes Go.ChangeAt Go.RowKit

section
variable {H : Type} {enc : TypeId × Value → H} {w : World} {base : Nat} {spare : Nat → Bool} {held : Bool} {fuel : Nat} {cs : List Value} {x : DataW H × List MemPlace}
theorem cellsOf_digest : Tryz.prog.cellsOf 24 = 16 := by kernel_rfl
theorem open_digs (h : DataW.trod enc Tryz.prog w base spare held fuel 132 cs = some x) :
    ∃ A n c, ∃ ps : List (List Int), cs = [.slice A n c] ∧ ps.length = n ∧ n ≤ c ∧ (∀ p ∈ ps, isDig p) ∧ (ps ≠ [] → ∃ ad, A = some ad ∧ ∀ i (_ : i < ps.length), ∀ j, j < 16 → w.cell? (ad.add (i * 16 + j)) = (ps[i].map (Value.int .u8))[j]?) := by
  obtain ⟨A, n, c, ps, hcs, hn, hc, hat⟩ := open_elems Tryz.underlying132 cellsOf_digest (fun (l : List Int) es => es = l.map (Value.int .u8) ∧ isDig l) zeroC (fun h => by
    obtain ⟨l, h1, h2, _, h4⟩ := arr_of_trod (n := 16) Tryz.underlying24 Tryz.underlying5 (by kernel_rfl) (by kernel_rfl) h
    exact ⟨l, h1, h2, fun z hz => by
      have := h4 z hz
      simp [Lit.wf, IntKind.min, IntKind.max, IntKind.signed, IntKind.bits] at this
      omega⟩) h
  refine ⟨A, n, c, ps, hcs, hn, hc, fun p hp => ?_, fun hne => ?_⟩
  · have hne : ps ≠ [] := by rintro rfl; cases hp
    obtain ⟨ad, _, hat2⟩ := hat hne
    obtain ⟨i, hi, rfl⟩ := List.mem_iff_getElem.1 hp
    obtain ⟨es, ⟨_, h2⟩, _⟩ := hat2 i hi
    exact h2
  · obtain ⟨ad, eA, hat2⟩ := hat hne
    refine ⟨ad, eA, fun i hi j hj => ?_⟩
    obtain ⟨es, ⟨rfl, _⟩, _, h3⟩ := hat2 i hi
    exact h3 j hj
set_option maxRecDepth 100000 in
theorem arg_digs {v : Value} {d : DataW H} {p : List MemPlace} {b0 : Nat} (hv : Value.okWide Tryz.prog w .any b0 132 v) (h : DataW.Trod enc Tryz.prog w base spare held 132 v d p) :
    ∃ A n c, ∃ ps : List (List Int), v = .slice A n c ∧ ps.length = n ∧ n ≤ c ∧ (∀ p ∈ ps, isDig p) ∧ (ps ≠ [] → ∃ ad, A = some ad ∧ ∀ i (_ : i < ps.length), ∀ j, j < 16 → w.cell? (ad.add (i * 16 + j)) = (ps[i].map (Value.int .u8))[j]?) := by
  obtain ⟨a0, len, cap, rfl⟩ := okWide_slice Tryz.underlying132 hv
  obtain ⟨fuel, hf⟩ := h
  obtain ⟨A, n, c, xs, hcs, hn, hc, hb⟩ := open_digs hf
  have e : Value.slice a0 len cap = .slice A n c := (List.cons.inj (show [Value.slice a0 len cap] = [Value.slice A n c] from hcs)).1
  exact ⟨A, n, c, xs, e, hn, hc, hb⟩
end
/-- Its place: a block and an offset. -/
theorem digs_at {w : World} {A : Option Addr} {ps : List (List Int)} (hne : ps ≠ []) (hd : ∀ p ∈ ps, isDig p) (h : ps ≠ [] → ∃ ad, A = some ad ∧ ∀ i (_ : i < ps.length), ∀ j, j < 16 → w.cell? (ad.add (i * 16 + j)) = (ps[i].map (Value.int .u8))[j]?) :
    ∃ b off, A = some ⟨b, off, none⟩ ∧ DigsAt w b off ps := by
  obtain ⟨⟨b, off, spot⟩, rfl, hc⟩ := h hne
  have hl : 0 < ps.length := List.length_pos_iff.2 hne
  have h0 := hc 0 hl 0 (by omega)
  have hl16 := (hd _ (List.getElem_mem hl)).1
  rw [List.getElem?_eq_getElem (by rw [List.length_map, hl16]; omega)] at h0
  have hspot : spot = none := by simpa [Addr.add] using World.cell?_spot h0
  subst hspot
  refine ⟨b, off, rfl, fun j hj i v hv => ?_⟩
  have hg : ps.getD j zeroC = ps[j] := by rw [List.getD, List.getElem?_eq_getElem hj]; rfl
  rw [hg] at hv
  have hi : i < 16 := by
    have := (List.getElem?_eq_some_iff.1 hv).1
    rw [Array.length_toList, arr_size, (hd _ (List.getElem_mem hj)).1] at this
    exact this
  have := hc j hj i hi
  rw [Addr.add_mid] at this
  rw [Nat.add_assoc, this]
  simpa [arrV] using hv
end Go.Proofs.YtmoebkdbnldbdaaGreatDoor
/-
  quorateref04.Root and quorateref04.Path.
-/
namespace Go.Proofs.YtmoebkdbnldbdaaGreatDoor
open Go.RowKit

theorem size_run {P : Program} {t : TypeId} {n : Nat} (w : World) (h : (P.info? t).map (·.size) = some n) : Sem.run P (sizeOf t) w = .ok n w := by
  cases hq : P.info? t with
  | none => simp [hq] at h
  | some i =>
    have : i.size = n := by simpa [hq] using h
    simp [sizeOf, typeInfo, hq, this]
theorem digs_lo (V : World) (b o n c m : Nat) (h : m ≤ c) : Sem.run Tryz.prog (Instr.sliceAt 132 (.slice (some ⟨b, o, none⟩) n c) none (some (.int .i64 (m : Int))) none) V = .ok (.slice (some ⟨b, o, none⟩) m c) V := by
  have hu : Tryz.prog.underlying 132 = some (.slice (Tryz.prog.elem 132)) := by kernel_rfl
  have he : Tryz.prog.elem 132 = 24 := by kernel_rfl
  rw [run_sliceAt_slice _ _ _ _ _ _ hu, run_slice_h _ _ _ _ _ hu .i64 (m : Int) (by omega) (by omega), he, size_run V info16]
  simp [Result.andThen, sliced, Addr.add]
theorem digs_hi (V : World) (b o n c m : Nat) (h : m ≤ n) (hc : m < c) : Sem.run Tryz.prog (Instr.sliceAt 132 (.slice (some ⟨b, o, none⟩) n c) (some (.int .i64 (m : Int))) none none) V = .ok (.slice (some ⟨b, o + m * 16, none⟩) (n - m) (c - m)) V := by
  have hu : Tryz.prog.underlying 132 = some (.slice (Tryz.prog.elem 132)) := by kernel_rfl
  have he : Tryz.prog.elem 132 = 24 := by kernel_rfl
  have hne : ¬ c = m := by omega
  rw [run_sliceAt_slice _ _ _ _ _ _ hu, run_slice_l _ _ _ _ _ hu .i64 (m : Int) (by omega) (by omega), he, size_run V info16]
  simp [Result.andThen, sliced, Addr.add, hne]

theorem not_one {n m : Nat} (h : n = 2 * m) : ((n : Int) == 1) = false ∧ ¬ n = 1 := ⟨by simp; omega, by omega⟩
theorem half_of {n m : Nat} (h : n = 2 * m) (h1 : m ≤ 32) : (n : Int).tdiv 2 = (m : Int) ∧ (n : Int) / 2 = (m : Int) ∧ wrap64 (m : Int) = (m : Int) ∧ n - m = m :=
  ⟨by rw [Int.tdiv_eq_ediv_of_nonneg (by omega)]; omega, by omega, w64 _ (by omega), by omega⟩
theorem halves {n m j L off o : Nat} (hnm : n = 2 * m) (hl : (j + 1) * n ≤ L) (ho : o = off + j * n * 16) : (2 * j + 1) * m ≤ L ∧ (2 * j + 1 + 1) * m ≤ L ∧ o = off + 2 * j * m * 16 ∧ o + m * 16 = off + (2 * j + 1) * m * 16 ∧ j * n = 2 * j * m := by
  have e0 : j * n = 2 * j * m := by rw [hnm, ← Nat.mul_assoc, Nat.mul_comm j 2]
  have e3 : (2 * j + 1 + 1) * m = (j + 1) * n := by rw [hnm, show 2 * j + 1 + 1 = (j + 1) * 2 by omega, Nat.mul_assoc]
  have e4 : (2 * j + 1 + 1) * m = (2 * j + 1) * m + m := by rw [Nat.add_mul (2 * j + 1) 1 m, Nat.one_mul]
  have o1 : o = off + 2 * j * m * 16 := by rw [ho, e0]
  exact ⟨by omega, by omega, o1, by rw [o1, Nat.add_mul, Nat.one_mul, Nat.add_mul, Nat.add_assoc], e0⟩

theorem sib_even (j : Nat) : sib (2 * j) = 2 * j + 1 := by rw [sib, if_pos (by omega)]
theorem sib_odd (j : Nat) : sib (2 * j + 1) = 2 * j := by rw [sib, if_neg (by omega)]; omega
theorem halfway {n m j I : Nat} {i : Int} (hnm : n = 2 * m) (hm1 : 1 ≤ m) (hj : I / n = j) (hjn : j * n = 2 * j * m) (hi : i = (I : Int) - (j * n : Nat)) :
    (I / m % 2 = 0 → I / m = 2 * j ∧ 0 ≤ i ∧ i < (m : Int) ∧ i = (I : Int) - ((2 * j * m : Nat) : Int)) ∧
    (¬ I / m % 2 = 0 → I / m = 2 * j + 1 ∧ (m : Int) ≤ i ∧ i < 2 * (m : Int) ∧ i - (m : Int) = (I : Int) - (((2 * j + 1) * m : Nat) : Int)) := by
  have hq : I / m / 2 = j := by rw [Nat.div_div_eq_div_mul, Nat.mul_comm m 2, ← hnm]; exact hj
  have hI := Nat.div_add_mod I m
  have hr := Nat.mod_lt I (show 0 < m by omega)
  have e1 : 2 * j * m = 2 * (j * m) := Nat.mul_assoc _ _ _
  have e2 : (2 * j + 1) * m = 2 * (j * m) + m := by rw [Nat.add_mul, Nat.one_mul, e1]
  rw [hjn, e1] at hi
  rw [e1, e2]
  clear hj hjn hnm e1 e2
  generalize I % m = r at *
  generalize I / m = q at *
  refine ⟨fun hp => ?_, fun hp => ?_⟩
  · have e : q = 2 * j := by omega
    have e3 : m * q = 2 * (j * m) := by rw [e, Nat.mul_comm m, Nat.mul_assoc]
    rw [e3] at hI
    generalize j * m = P at *
    exact ⟨e, by omega, by omega, by omega⟩
  · have e : q = 2 * j + 1 := by omega
    have e3 : m * q = 2 * (j * m) + m := by rw [e, Nat.mul_add, Nat.mul_one, Nat.mul_comm m, Nat.mul_assoc]
    rw [e3] at hI
    generalize j * m = P at *
    exact ⟨e, by omega, by omega, by omega⟩

end Go.Proofs.YtmoebkdbnldbdaaGreatDoor
/-
  quorateref04.Path.
-/

namespace Go.Proofs.YtmoebkdbnldbdaaGreatDoor
open Go.RowKit

/-- What the document's way up is, in memory. -/
def wayV (ps : List (List Int)) (I : Nat) (k : Nat) : Array Value := arrV .u8 (wayC ps I k)
theorem info16p : (Tryz.prog.info? 24).map (fun i => (i.zero, i.size, i.bytes)) = some (some (.agg (arrV .u8 (List.replicate 16 0))), 16, 16) := by kernel_rfl
theorem wp_bslice_run {P : Program} {o : Oper} {a : Act} {w w' : World} {K : Act → World → Prop} {Q : Exit → Act → World → Prop} (t : TypeId) (len : Nat) (i : Nat) (x : Operand) (ho : o.op = .buildSlice t len #[(i, x)]) (u V : Value) (hx : a.eval x = u)
    (hr : Sem.run P (Instr.buildSlice t len #[(i, u)]) w = .ok V w') (h : K (a.put o.dst V) w') : o.wp P a w K Q := by
  have hm : (#[(i, x)] : Array (Nat × Operand)).map (fun (i, x) => (i, a.eval x)) = #[(i, u)] := by simp [hx]
  unfold Oper.wp execOp
  simp only [ho, Sem.run_bind, hm, hr, Result.andThen_ok]
  exact h
theorem wayV_size {ps : List (List Int)} (hps : ∀ p ∈ ps, isDig p) (I k : Nat) : (wayV ps I k).size = 16 := by rw [wayV, arr_size]; exact (wayC_dig hps _ _).1

end Go.Proofs.YtmoebkdbnldbdaaGreatDoor
