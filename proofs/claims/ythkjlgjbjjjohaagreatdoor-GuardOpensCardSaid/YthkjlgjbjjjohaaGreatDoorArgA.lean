/-
  Several texts in one: Law, Arr, Arg0, ArgE, ArgB, ArgL.
-/
import Derived.Test.YthkjlgjbjjjohaaGreatDoorBaseA
import Derived.ProofKit
import Derived.OpenShut
import Derived.Deep.Slices
import Derived.Deep.Fields
/-
  The last step of every law's row: what was there is as it was, so the arguments read as they read; the result is true.
-/
namespace Go.Proofs.YthkjlgjbjjjohaaGreatDoor
open Go.ChangeShapes Go.WideShapes Go.ChangeAt Go.RowKit

theorem laid_out : laidOutB Tryz.prog = true := by kernel_rfl

section
variable {H : Type} {enc : TypeId × Value → H} {W W' : World}
theorem trodAll_below : ∀ {ts : List TypeId} {vs : List Value} {ds : List (DataW H)} {ps : List MemPlace}, (∀ t ∈ ts, Tryz.prog.readableRec t = true ∧ t < Tryz.prog.types.size) →
    DataW.TrodAll enc Tryz.prog W 0 (fun _ => true) true ts vs ds ps → Below W.heap.size W W' → (∀ x ∈ ps, x.block < W.heap.size) →
    DataW.TrodAll enc Tryz.prog W' 0 (fun b => decide (b < W.heap.size)) true ts vs ds ps
  | [], [], [], _, _, h, _, _ => h
  | _ :: _, _ :: _, _ :: _, _, hT, ⟨p, q, h1, h2, e⟩, hb, hlt =>
    ⟨p, q, Below.trod laid_out (hT _ (by simp)).1 (hT _ (by simp)).2 h1 hb (fun x hx => hlt x (by rw [e]; exact List.mem_append_left _ hx)),
      trodAll_below (fun t ht => hT t (by simp [ht])) h2 hb (fun x hx => hlt x (by rw [e]; exact List.mem_append_right _ hx)), e⟩

theorem law_post {f : Func} {s : ChangeSpec} {args : Array Value} {ds gs : List (DataW H)} {before : List MemPlace}
    (hW : DataW.Whole enc Tryz.prog f.params.toList s.vars false W args.toList ds gs before) (hv : s.vars = [])
    (hfn : s.fn H (ds ++ gs) = { results := [.lit (.bool true)], args := ds }) (hres : f.resultTypes = #[4])
    (hT : (f.params.toList.all fun t => Tryz.prog.readableRec t && decide (t < Tryz.prog.types.size)) = true) (hb : Below W.heap.size W W') :
    s.post enc Tryz.prog f false true false false W args (.bool true) W' := by
  have hW' := hW
  obtain ⟨p, q, hA, hV, rfl, hfz, hnd⟩ := hW'
  have hlt : ∀ x ∈ p ++ q, x.block < W.heap.size := fun x hx => hW.lt x hx
  have hT' : ∀ t ∈ f.params.toList, Tryz.prog.readableRec t = true ∧ t < Tryz.prog.types.size := fun t ht => by
    have := List.all_eq_true.1 hT t ht
    simpa using this
  refine ⟨ds, gs, p ++ q, [], p, [], hW, ?_, ?_, ?_, hb.frame _, fun h => by cases h⟩
  · rw [hfn, hres]; exact trodAll_mk1 (shut_bool Tryz.underlying4 true)
  · rw [hfn]; exact trodAll_below hT' hA hb (fun x hx => hlt x (List.mem_append_left _ hx))
  · rw [hv, hfn]; rfl
end
end Go.Proofs.YthkjlgjbjjjohaaGreatDoor
/-
  An array of numbers, as the reader reads it: taken apart.
-/
namespace Go.Proofs.YthkjlgjbjjjohaaGreatDoor
open Go.ChangeShapes Go.WideShapes Go.ChangeAt Go.RowKit

section
variable {H : Type} {enc : TypeId × Value → H} {P : Program} {w : World} {base : Nat} {spare : Nat → Bool} {held : Bool} {fuel : Nat}
def numV : Value → Int
  | .int _ n => n
  | _ => 0
theorem arr_of_trod {t e : TypeId} {n : Nat} {q : IntKind} {cs : List Value} {x : DataW H × List MemPlace} (ht : P.underlying t = some (.array n e)) (he : P.underlying e = some (.int q)) (hce : P.cellsOf e = 1) (hct : P.cellsOf t = n)
    (h : DataW.trod enc P w base spare held fuel t cs = some x) :
    ∃ l : List Int, cs = l.map (Value.int q) ∧ l.length = n ∧ x = (.agg (l.map fun z => .lit (.int q z)), []) ∧ ∀ z ∈ l, (Lit.int q z).wf = true := by
  obtain ⟨xs, m, _, hx, hlen, hxl, hi⟩ := DataW.trod_array ht h
  rw [hct] at hlen
  have each : ∀ i, i < n → ∃ z, cs[i]? = some (.int q z) ∧ xs[i]? = some (.lit (.int q z), []) ∧ (Lit.int q z).wf = true := by
    intro i hn
    have h1 := hi i hn
    rw [hce, Nat.mul_one] at h1
    have hxi : xs[i]? = some (xs[i]'(by omega)) := List.getElem?_eq_getElem _
    rw [hxi] at h1
    obtain ⟨z, e1, e2, e3⟩ := DataW.trod_int he h1
    refine ⟨z, ?_, by rw [hxi, e2], e3⟩
    have : ((cs.drop i).take 1)[0]? = some (.int q z) := by rw [e1]; rfl
    simpa using this
  have hcs : cs = (cs.map numV).map (Value.int q) := by
    apply List.ext_getElem?
    intro i
    by_cases hn : i < n
    · obtain ⟨z, e1, _⟩ := each i hn
      simp [e1, numV]
    · rw [List.getElem?_eq_none (by omega), List.getElem?_eq_none (by simp; omega)]
  have hxs : xs = (cs.map numV).map fun z => ((DataW.lit (.int q z), []) : DataW H × List MemPlace) := by
    apply List.ext_getElem?
    intro i
    by_cases hn : i < n
    · obtain ⟨z, e1, e2, _⟩ := each i hn
      rw [e2]
      simp [e1, numV]
    · rw [List.getElem?_eq_none (by omega), List.getElem?_eq_none (by simp; omega)]
  refine ⟨cs.map numV, hcs, by simp; exact hlen, ?_, ?_⟩
  · rw [hx, hxs]
    simp [Function.comp_def, List.flatMap_map]
  · intro z hz
    obtain ⟨i, hn, rfl⟩ := List.mem_iff_getElem.1 hz
    have hn' : i < n := by simp at hn; omega
    obtain ⟨z', e1, _, e3⟩ := each i hn'
    have : (cs.map numV)[i] = z' := by
      have : (cs.map numV)[i]? = some z' := by simp [e1, numV]
      rw [List.getElem?_eq_getElem hn] at this
      exact Option.some.inj this
    rw [this]
    exact e3
theorem okWide_array {r : Reach} {b0 : Nat} {t e : TypeId} {n : Nat} {v : Value} (ht : P.underlying t = some (.array n e)) (h : Value.okWide P w r b0 t v) : ∃ cs, v = .agg cs ∧ cs.size = P.cellsOf t := by
  simp only [Value.okWide, ht] at h
  obtain ⟨cs, h1, h2, _⟩ := h
  exact ⟨cs, h1, h2⟩
theorem arg_arr {r : Reach} {b0 : Nat} {t e : TypeId} {n : Nat} {q : IntKind} {v : Value} {d : DataW H} {p : List MemPlace} (ht : P.underlying t = some (.array n e)) (he : P.underlying e = some (.int q)) (hce : P.cellsOf e = 1) (hct : P.cellsOf t = n)
    (hv : Value.okWide P w r b0 t v) (h : DataW.Trod enc P w base spare held t v d p) : ∃ l : List Int, v = .agg (l.map (Value.int q)).toArray ∧ l.length = n ∧ ∀ z ∈ l, (Lit.int q z).wf = true := by
  obtain ⟨cs, rfl, _⟩ := okWide_array ht hv
  obtain ⟨fuel, hf⟩ := h
  obtain ⟨l, hcs, hl, _, hwf⟩ := arr_of_trod ht he hce hct hf
  refine ⟨l, ?_, hl, hwf⟩
  have : cs.toList = l.map (Value.int q) := hcs
  rw [← this]
end
end Go.Proofs.YthkjlgjbjjjohaaGreatDoor
/-
  An address with no spot.
-/
namespace Go.Proofs.YthkjlgjbjjjohaaGreatDoor
open Go.ChangeShapes Go.WideShapes Go.ChangeAt Go.RowKit

section
variable {H : Type} {enc : TypeId × Value → H} {w : World} {base : Nat} {spare : Nat → Bool} {held : Bool} {fuel : Nat} {cs : List Value} {x : DataW H × List MemPlace}

theorem addr_form {ad : Addr} {k : Nat} {v : Value} (h : w.cell? (ad.add k) = some v) (hs : k = 0) : ∃ b off, ad = ⟨b, off, none⟩ := by
  subst hs
  obtain ⟨b, off, spot⟩ := ad
  have hspot : spot = none := by simpa [Addr.add] using World.cell?_spot h
  subst hspot
  exact ⟨b, off, rfl⟩
end
end Go.Proofs.YthkjlgjbjjjohaaGreatDoor
/-
  A slice's elements opened one by one.
-/

namespace Go.Proofs.YthkjlgjbjjjohaaGreatDoor
open Go.ChangeShapes Go.WideShapes Go.ChangeAt Go.RowKit

section
variable {H : Type} {enc : TypeId × Value → H} {w : World} {base : Nat} {spare : Nat → Bool} {held : Bool} {fuel : Nat} {cs : List Value} {x : DataW H × List MemPlace}
/-- A slice whose elements' cells have been opened one by one: k cells an element. -/
theorem open_elems {α : Type} {t e : TypeId} {k : Nat} (ht : Tryz.prog.underlying t = some (.slice e)) (hc : Tryz.prog.cellsOf e = k) (R : α → List Value → Prop) (dflt : α)
    (hR : ∀ {fuel : Nat} {cs : List Value} {y : DataW H × List MemPlace}, DataW.trod enc Tryz.prog w base spare held fuel e cs = some y → ∃ z, R z cs)
    (h : DataW.trod enc Tryz.prog w base spare held fuel t cs = some x) :
    ∃ A n c, ∃ xs : List α, cs = [.slice A n c] ∧ xs.length = n ∧ n ≤ c ∧ (xs ≠ [] → ∃ ad, A = some ad ∧ ∀ i (_ : i < xs.length), ∃ es, R xs[i] es ∧ es.length = k ∧ ∀ j, j < k → w.cell? (ad.add (i * k + j)) = es[j]?) := by
  rcases DataW.trod_slice ht h with ⟨hcs, _⟩ | ⟨a, len, cap, elems, rest, n, _, hcs, _, _, hl, _, hlen, hel, _⟩
  · exact ⟨none, 0, 0, [], hcs, rfl, Nat.le_refl _, fun h => absurd rfl h⟩
  · rw [hc] at hel
    have each : ∀ i, i < len → ∃ z es, R z es ∧ es.length = k ∧ ∀ j, j < k → w.cell? (a.add (i * k + j)) = es[j]? := by
      intro i hi
      have hE := hel i hi
      have hi' : i < elems.length := by omega
      rw [List.getElem?_eq_getElem hi'] at hE
      simp only [Option.bind_eq_some_iff] at hE
      obtain ⟨cs', hc', ht⟩ := hE
      obtain ⟨z, hz⟩ := hR ht
      obtain ⟨h1, _, hat⟩ := World.cells?_some hc'
      refine ⟨z, cs', hz, by omega, fun j hj => ?_⟩
      rw [← Go.Deep.add_add]
      exact hat j hj
    let ops : List α := (List.range len).map fun i => if h : i < len then (each i h).choose else dflt
    have hops : ops.length = len := by simp [ops]
    refine ⟨some a, len, cap, ops, hcs, hops, hl, fun _ => ⟨a, rfl, fun i hi => ?_⟩⟩
    have hi' : i < len := by omega
    have e : ops[i] = (each i hi').choose := by simp [ops, hi']
    rw [e]
    exact (each i hi').choose_spec
end
end Go.Proofs.YthkjlgjbjjjohaaGreatDoor
/-
  An argument opened: a slice of bytes, as a list.
-/

namespace Go.Proofs.YthkjlgjbjjjohaaGreatDoor
open Go.ChangeShapes Go.WideShapes Go.ChangeAt Go.RowKit

section
variable {H : Type} {enc : TypeId × Value → H} {w : World} {base : Nat} {spare : Nat → Bool} {held : Bool} {fuel : Nat} {cs : List Value} {x : DataW H × List MemPlace}

theorem u8_of {z : Int} (h : (Lit.int .u8 z).wf = true) : (((UInt8.ofNat z.toNat).toNat : Nat) : Int) = z := by
  have hz : 0 ≤ z ∧ z ≤ 255 := by simpa [Lit.wf, IntKind.min, IntKind.max, IntKind.signed, IntKind.bits] using h
  simp; omega

theorem open_bytes (h : DataW.trod enc Tryz.prog w base spare held fuel 49 cs = some x) :
    ∃ A n c, ∃ l : List UInt8, cs = [.slice A n c] ∧ l.length = n ∧ n ≤ c ∧ c ≤ maxLen ∧ BytesAt w A l ∧ ∀ ad, A = some ad → l ≠ [] → ad.block < w.heap.size := by
  rcases open_ints Tryz.underlying49 Tryz.underlying5 (by kernel_rfl) h with ⟨hcs, _⟩ | ⟨a, len, cap, zs, hcs, _, hl, hm, hz, _, hcell, hwf⟩
  · exact ⟨none, 0, 0, [], hcs, rfl, Nat.le_refl _, by simp [maxLen], BytesAt.nil _ _, fun _ e => by cases e⟩
  · have hlz : len ≤ zs.length := by rw [hz]; split <;> omega
    have hc : ∀ j (hj : j < ((zs.take len).map fun z => UInt8.ofNat z.toNat).length), w.cell? (a.add j) = some (.int .u8 (((zs.take len).map fun z => UInt8.ofNat z.toNat)[j].toNat : Nat)) := by
      intro j hj
      have hj' : j < len := by simp at hj; omega
      rw [hcell j (by omega)]
      simp only [List.getElem_map, List.getElem_take]
      rw [u8_of (hwf _ (List.getElem_mem _))]
      simp [List.getD, List.getElem?_eq_getElem (show j < zs.length by omega)]
    refine ⟨some a, len, cap, (zs.take len).map fun z => UInt8.ofNat z.toNat, hcs, by simp; omega, hl, hm, fun _ => ⟨a, rfl, hc⟩, ?_⟩
    intro ad e hne
    injection e with e
    subst e
    have h0 := hc 0 (List.length_pos_iff.2 hne)
    have := World.block_lt_of_cell? w _ h0
    rwa [block_add] at this

theorem BytesAt.get {A : Option Addr} {l : List UInt8} (h : BytesAt w A l) (hl : l ≠ []) : ∃ b off, A = some ⟨b, off, none⟩ ∧ ∀ j (hj : j < l.length), w.cell? ⟨b, off + j, none⟩ = some (.int .u8 l[j].toNat) := by
  obtain ⟨ad, rfl, hc⟩ := h hl
  obtain ⟨b, off, rfl⟩ := addr_form (hc 0 (List.length_pos_iff.2 hl)) rfl
  exact ⟨b, off, rfl, fun j hj => by rw [← Go.WideShapes.add_plain]; exact hc j hj⟩
set_option maxRecDepth 100000 in
theorem arg_bytes {v : Value} {d : DataW H} {p : List MemPlace} {b0 : Nat} (hv : Value.okWide Tryz.prog w .any b0 49 v) (h : DataW.Trod enc Tryz.prog w base spare held 49 v d p) :
    ∃ A n c, ∃ l : List UInt8, v = .slice A n c ∧ l.length = n ∧ n ≤ c ∧ BytesAt w A l := by
  obtain ⟨a0, len, cap, rfl⟩ := okWide_slice Tryz.underlying49 hv
  obtain ⟨fuel, hf⟩ := h
  obtain ⟨A, n, c, l, hcs, hn, hc, _, hb, _⟩ := open_bytes hf
  have e : Value.slice a0 len cap = .slice A n c := (List.cons.inj (show [Value.slice a0 len cap] = [Value.slice A n c] from hcs)).1
  exact ⟨A, n, c, l, e, hn, hc, hb⟩
end
end Go.Proofs.YthkjlgjbjjjohaaGreatDoor
/-
  An argument opened: a slice of anything, of slices of bytes.
-/
namespace Go.Proofs.YthkjlgjbjjjohaaGreatDoor
open Go.ChangeShapes Go.WideShapes Go.ChangeAt Go.RowKit

/-- The bytes' lists ps lie at A, each as a slice. -/
def ListsAt (w : World) (A : Option Addr) (ps : List (List UInt8)) : Prop := ps ≠ [] → ∃ ad, A = some ad ∧ ∀ j (_ : j < ps.length), ∃ B c, w.cell? (ad.add j) = some (.slice B ps[j].length c) ∧ ps[j].length ≤ c ∧ BytesAt w B ps[j]
section
variable {H : Type} {enc : TypeId × Value → H} {w : World} {base : Nat} {spare : Nat → Bool} {held : Bool} {fuel : Nat} {cs : List Value} {x : DataW H × List MemPlace}
theorem cellsOf_bytes : Tryz.prog.cellsOf 49 = 1 := by kernel_rfl
theorem open_lists (h : DataW.trod enc Tryz.prog w base spare held fuel 195 cs = some x) :
    ∃ A n c, ∃ ps : List (List UInt8), cs = [.slice A n c] ∧ ps.length = n ∧ n ≤ c ∧ ListsAt w A ps := by
  obtain ⟨A, n, c, ps, hcs, hn, hc, hat⟩ := open_elems Tryz.underlying195 cellsOf_bytes (fun (l : List UInt8) es => ∃ B m c, es = [.slice B m c] ∧ l.length = m ∧ m ≤ c ∧ BytesAt w B l) [] (fun h => by
    obtain ⟨B, m, c, l, h1, h2, h3, _, h4, _⟩ := open_bytes h
    exact ⟨l, B, m, c, h1, h2, h3, h4⟩) h
  refine ⟨A, n, c, ps, hcs, hn, hc, fun hne => ?_⟩
  obtain ⟨ad, eA, hat2⟩ := hat hne
  refine ⟨ad, eA, fun j hj => ?_⟩
  obtain ⟨es, ⟨B, m, c', rfl, h2, h3, h4⟩, _, hcell⟩ := hat2 j hj
  subst h2
  exact ⟨B, c', by have := hcell 0 (by omega); rw [Nat.mul_one, Nat.add_zero] at this; exact this, h3, h4⟩
set_option maxRecDepth 100000 in
theorem arg_lists {v : Value} {d : DataW H} {p : List MemPlace} {b0 : Nat} (hv : Value.okWide Tryz.prog w .any b0 195 v) (h : DataW.Trod enc Tryz.prog w base spare held 195 v d p) :
    ∃ A n c, ∃ ps : List (List UInt8), v = .slice A n c ∧ ps.length = n ∧ n ≤ c ∧ ListsAt w A ps := by
  obtain ⟨a0, len, cap, rfl⟩ := okWide_slice Tryz.underlying195 hv
  obtain ⟨fuel, hf⟩ := h
  obtain ⟨A, n, c, xs, hcs, hn, hc, hb⟩ := open_lists hf
  have e : Value.slice a0 len cap = .slice A n c := (List.cons.inj (show [Value.slice a0 len cap] = [Value.slice A n c] from hcs)).1
  exact ⟨A, n, c, xs, e, hn, hc, hb⟩
end
theorem ListsAt.grown {w w' : World} {A : Option Addr} {ps : List (List UInt8)} (h : ListsAt w A ps) (hg : w.grownBy w' none) : ListsAt w' A ps := fun hne => by
  obtain ⟨ad, e, hat⟩ := h hne
  refine ⟨ad, e, fun j hj => ?_⟩
  obtain ⟨B, c, h1, h2, h3⟩ := hat j hj
  exact ⟨B, c, hg.cell h1 (by simp), h2, h3.grown hg (by simp)⟩
theorem ListsAt.get {w : World} {A : Option Addr} {ps : List (List UInt8)} (h : ListsAt w A ps) (k : Nat) (hk : k < ps.length) : ∃ ad B c, A = some ad ∧ w.cell? (ad.add k) = some (.slice B (ps.getD k []).length c) ∧ (ps.getD k []).length ≤ c ∧ BytesAt w B (ps.getD k []) := by
  obtain ⟨ad, e, hat⟩ := h (by intro e; rw [e] at hk; simp at hk)
  obtain ⟨B, c, h1, h2, h3⟩ := hat k hk
  have : ps.getD k [] = ps[k] := by simp [List.getD, hk]
  rw [this]
  exact ⟨ad, B, c, e, h1, h2, h3⟩
end Go.Proofs.YthkjlgjbjjjohaaGreatDoor
