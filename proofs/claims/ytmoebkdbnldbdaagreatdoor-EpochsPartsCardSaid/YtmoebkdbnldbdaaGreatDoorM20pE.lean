/-
  Several texts in one: TrW, Sm, TrH, Kn.
-/
import Derived.Test.YtmoebkdbnldbdaaGreatDoorM20pC
import Derived.Test.YtmoebkdbnldbdaaGreatDoorM20pD
import Derived.Deep.MidRow
import Derived.Test.YtmoebkdbnldbdaaGreatDoorM20pj
import Derived.Test.YtmoebkdbnldbdaaGreatDoorM20pr
import Derived.Test.YtmoebkdbnldbdaaGreatDoorM20pB
/-
  trees.Path.
-/
namespace Go.Proofs.YtmoebkdbnldbdaaGreatDoor
open Go.RowKit Go.Shelf

attribute [local go_sem] Oper.semAt_some

/-- The row of the way up, in the box of a variable. -/
def WayIn (W : World) (B base : Nat) (n : Nat) (L : List Value) : Prop := ∃ v, Boxed W B 132 v ∧ W.ownsRow base 24 16 v n L ∧ True
theorem way_own {B0 : Nat} (B base : Nat) (f : Nat → Array Value) : OwnFrom B0 (fun (pre : List Lev) W => WayIn W B base pre.length (rowV f pre.length)) :=
  (holdsRow_own base B 132 24 16 (fun pre : List Lev => pre.length) (fun pre => rowV f pre.length) (fun _ _ => True)).from _
theorem way_own5 {B0 : Nat} (B base : Nat) (f : Nat → Array Value) : OwnFrom B0 (fun (_ : List Lev) W => WayIn W B base 5 (rowV f 5)) :=
  (holdsRow_own base B 132 24 16 (fun _ : List Lev => 5) (fun _ => rowV f 5) (fun _ _ => True)).from _
/-- What a variable holds lies elsewhere. -/
def Aside (W : World) (B g : Nat) : Prop := ∃ v, Boxed W B 132 v ∧ v.ownBlock ≠ some g
theorem aside_own {β : Type} {B0 : Nat} (B g : Nat) : OwnFrom B0 (fun (_ : β) W => Aside W B g) := fun _ _ _ _ hs hg hr => by
  obtain ⟨v, h1, h2⟩ := hs
  exact ⟨v, (grownBy_keeps_cells hg (fun r e => (hr r e).2) h1 rfl).trans h1, h2⟩
theorem sib_lt {i k : Nat} (hi : i < 32) (hk : k < 5) : sib (i / 2 ^ k) < 32 / 2 ^ k := by
  have : k = 0 ∨ k = 1 ∨ k = 2 ∨ k = 3 ∨ k = 4 := by omega
  unfold sib
  rcases this with rfl | rfl | rfl | rfl | rfl <;> simp <;> split <;> omega
theorem half_lt {i k : Nat} (hi : i < 32) : i / 2 ^ k < 32 := Nat.lt_of_le_of_lt (Nat.div_le_self _ _) hi

theorem results_tmp2K21 {fn : Func} {s u : Tmp} (h : fn.results = #[.tmp s, .tmp u]) (tmps : Array Value) (P : Program) (w : World) : (results fn tmps).run P w = .ok (.tuple #[tmps.getD s undef, tmps.getD u undef]) w := by
  simp [results, h]

end Go.Proofs.YtmoebkdbnldbdaaGreatDoor
/-
  quorateref03.Same of rows of any length.
-/
namespace Go.Proofs.YtmoebkdbnldbdaaGreatDoor
open Go.RowKit

/-- As far as k they are the same. -/
def SameTo (k : Nat) (ps qs : List (List Int)) : Prop := ∀ j, j < k → ps.getD j zeroC = qs.getD j zeroC
theorem sameTo_all {ps qs : List (List Int)} {n : Nat} (h1 : ps.length = n) (h2 : qs.length = n) (h : SameTo n ps qs) : ps = qs := by
  refine List.ext_getElem (by omega) fun i i1 i2 => ?_
  have := h i (by omega)
  rw [List.getD, List.getD, List.getElem?_eq_getElem i1, List.getElem?_eq_getElem i2] at this
  exact this
end Go.Proofs.YtmoebkdbnldbdaaGreatDoor
/-
  Ways up and roots: what several laws of digests' trees need; it names no law.
-/
namespace Go.Proofs.YtmoebkdbnldbdaaGreatDoor
open Go.RowKit

/-- The way up but its first digest. -/
theorem way_rest {w : World} {g : Nat} {ps : List (List Int)} {i : Nat} (h : ∀ k, k < 5 → w.rangeAt g (0 + k * 16) (wayV ps i k).toList) : DigsAt w g 16 (upto (fun k => wayC ps i (k + 1)) 4) := fun j hj => by
  rw [upto_length] at hj
  rw [upto_get hj]
  have := h (j + 1) (by omega)
  rwa [show 0 + (j + 1) * 16 = 16 + j * 16 by omega] at this
theorem way_dig {ps : List (List Int)} (hps : ∀ p ∈ ps, isDig p) (f : Nat → Nat) (i n : Nat) : ∀ p ∈ upto (fun k => wayC ps i (f k)) n, isDig p := by
  intro p hp
  simp only [upto, List.mem_map] at hp
  obtain ⟨k, _, rfl⟩ := hp
  exact wayC_dig hps _ _
theorem u64_rem32 (x : Int) : IntKind.i64.wrap ((IntKind.u64.wrap x).tmod 32) = x % 32 ∧ IntKind.u64.wrap x % 32 = x % 32 := by
  have h : IntKind.u64.wrap x = x % 18446744073709551616 := by simp [IntKind.wrap, IntKind.bits, IntKind.signed]
  rw [h]
  have h2 : (x % 18446744073709551616).tmod 32 = x % 32 := by rw [Int.tmod_eq_emod_of_nonneg (by omega)]; omega
  refine ⟨?_, by omega⟩
  rw [h2, IntKind.wrap_i64]; omega
theorem wayL_get (ps : List (List Int)) (i : Nat) : ∀ h, h < 5 → (upto (wayC ps i) 5).getD h zeroC = wayC ps i h := fun _ h => upto_get h
theorem wayL_digs {w : World} {g : Nat} {ps : List (List Int)} {i : Nat} (h : ∀ k, k < 5 → w.rangeAt g (0 + k * 16) (wayV ps i k).toList) : DigsAt w g 0 (upto (wayC ps i) 5) := fun j hj => by
  rw [upto_length] at hj
  rw [upto_get hj]
  exact h j hj
/-- The root that a leaf's own way up leads to. -/
theorem climb_root {ps : List (List Int)} {i : Nat} (hi : i < 32) : climbC (ps.getD i zeroC) (i : Int) (upto (wayC ps i) 5) 5 = nodeC ps 5 0 := by
  rw [climb_way ps _ i _ (by rw [nodeC]) 5 (wayL_get ps i), show i / 2 ^ 5 = 0 by omega]
theorem climb_own (w : World) (hR : Rounds w) (ps : List (List Int)) (hps : ∀ p ∈ ps, isDig p) (i : Nat) (hi : i < 32) (iv : Int) (hiv : iv = (i : Int)) (g cap : Nat) (h : ∀ k, k < 5 → w.rangeAt g (0 + k * 16) (wayV ps i k).toList) (ds rs : Array Value) (hds : ds = arrV .u8 (ps.getD i zeroC)) (hrs : rs = arrV .u8 (nodeC ps 5 0)) :
    Calls Tryz.prog 100 #[.agg ds, .int .i64 iv, .slice (some ⟨g, 0, none⟩) 5 cap] w fun e w' => e = .returned (.tuple #[.agg rs, .nilIface]) ∧ w.grownBy w' none := by
  subst hiv
  exact climb_ok w hR _ (getD_dig hps i) (i : Int) (by omega) g 0 cap _ (upto_length _ _) (way_dig hps (fun k => k) i 5) (wayL_digs h) ds rs hds (by rw [hrs, climb_root hi])
end Go.Proofs.YtmoebkdbnldbdaaGreatDoor
/-
  keys.New and (*Key).Root.
-/
namespace Go.Proofs.YtmoebkdbnldbdaaGreatDoor
open Go.RowKit

theorem wpList_build1k {P : Program} {ops : Array Oper} {rest : List Oper} {o : Oper} {a : Act} {w : World} {Q : Exit → Act → World → Prop} (hgd : o.guard = none) (t : TypeId) (i : Nat) (x : Operand) (ho : o.op = .build t #[(i, x)]) (u V : Value) (hx : a.eval x = u)
    (hr : Sem.run P (Instr.build t #[(i, u)]) w = .ok V w) (h : wpList P ops Q rest (a.put o.dst V) w) : wpList P ops Q (o :: rest) a w :=
  wpList_plain hgd fun K hK => by
    have hm : (#[(i, x)] : Array (Nat × Operand)).map (fun (i, x) => (i, a.eval x)) = #[(i, u)] := by simp [hx]
    unfold Oper.wp execOp
    simp only [ho, Sem.run_bind, hm, hr, Result.andThen_ok]
    exact hK _ _ h
theorem arr16 (sd : Array Value) (h : sd.size = 16) : ∃ a0 a1 a2 a3 a4 a5 a6 a7 a8 a9 a10 a11 a12 a13 a14 a15 : Value, sd = #[a0, a1, a2, a3, a4, a5, a6, a7, a8, a9, a10, a11, a12, a13, a14, a15] := by
  obtain ⟨l⟩ := sd
  have h : l.length = 16 := h
  match l, h with
  | [a0, a1, a2, a3, a4, a5, a6, a7, a8, a9, a10, a11, a12, a13, a14, a15], _ => exact ⟨a0, a1, a2, a3, a4, a5, a6, a7, a8, a9, a10, a11, a12, a13, a14, a15, rfl⟩
/-- A key's cells as they are made. -/
def keyZ (sd : Array Value) : Array Value := sd ++ #[.slice none 0 0] ++ #[.int .u8 0, .int .u8 0, .int .u8 0, .int .u8 0, .int .u8 0, .int .u8 0, .int .u8 0, .int .u8 0, .int .u8 0, .int .u8 0, .int .u8 0, .int .u8 0, .int .u8 0, .int .u8 0, .int .u8 0, .int .u8 0]
/-- What a key holds: its seed, its row of leaves, its root. -/
def KeyAt (w : World) (kb : Nat) (sd : Array Value) (lv : Value) (rt : Array Value) : Prop := w.rangeAt kb 0 sd.toList ∧ w.cell? ⟨kb, 16, none⟩ = some lv ∧ w.rangeAt kb 17 rt.toList ∧ w.there kb 0 33
theorem KeyAt.to {w w' : World} {kb : Nat} {sd rt : Array Value} {lv : Value} {row : Option Nat} (h : KeyAt w kb sd lv rt) (hg : w.grownBy w' row) (hr : some kb ≠ row) : KeyAt w' kb sd lv rt :=
  ⟨range_to h.1 hg hr, hg.cell h.2.1 hr, range_to h.2.2.1 hg hr, there_to h.2.2.2 hg hr⟩
theorem KeyAt.grown {w w' : World} {kb : Nat} {sd rt : Array Value} {lv : Value} (h : KeyAt w kb sd lv rt) (hg : w.grownBy w' none) : KeyAt w' kb sd lv rt := h.to hg (by simp)
theorem KeyAt.lt {w : World} {kb : Nat} {sd rt : Array Value} {lv : Value} (h : KeyAt w kb sd lv rt) : kb < w.heap.size := World.block_lt_of_cell? w _ h.2.1
theorem keyZ_at {w : World} {kb : Nat} {sd : Array Value} {t : TypeId} (hs : sd.size = 16) (h : Blk w kb t (keyZ sd)) : KeyAt w kb sd (.slice none 0 0) #[.int .u8 0, .int .u8 0, .int .u8 0, .int .u8 0, .int .u8 0, .int .u8 0, .int .u8 0, .int .u8 0, .int .u8 0, .int .u8 0, .int .u8 0, .int .u8 0, .int .u8 0, .int .u8 0, .int .u8 0, .int .u8 0] := by
  refine ⟨fun j v hv => ?_, ?_, fun j v hv => ?_, there_blk h (by simp [keyZ, hs])⟩
  · have hj : j < 16 := by have := (List.getElem?_eq_some_iff.1 hv).1; rwa [Array.length_toList, hs] at this
    rw [h.cell, Nat.zero_add, keyZ, Array.getElem?_append_left (by simp [hs]; omega), Array.getElem?_append_left (by omega), ← Array.getElem?_toList]
    exact hv
  · rw [h.cell, keyZ, Array.getElem?_append_left (by simp [hs]), Array.getElem?_append_right (by omega), hs]
    rfl
  · rw [h.cell, keyZ, Array.getElem?_append_right (by simp [hs]), ← Array.getElem?_toList]
    have e : 17 + j - (sd ++ #[Value.slice none 0 0]).size = j := by simp [hs]
    rw [e]
    exact hv
/-- The cell of the leaves is written. -/
theorem KeyAt.leaves {w : World} {kb : Nat} {sd rt : Array Value} {lv : Value} (hs : sd.size = 16) (h : KeyAt w kb sd lv rt) (v : Value) : KeyAt (w.setCell ⟨kb, 16, none⟩ v) kb sd v rt := by
  have e : w.setCell ⟨kb, 16, none⟩ v = w.setCells kb 16 [v] := rfl
  have ht := h.2.2.2
  refine ⟨by rw [e]; exact World.rangeAt_setCells_apart h.1 _ _ _ (.inr (.inl (by rw [Array.length_toList, hs]; omega))), ?_, by rw [e]; exact World.rangeAt_setCells_apart h.2.2.1 _ _ _ (.inr (.inr (by simp))), by rw [e]; exact World.there_setCells ht _ _ _⟩
  rw [e]
  have := World.rangeAt_setCells_same w kb 16 [v] (there_sub ht (by omega) (by simp)) 0 v rfl
  simpa using this
/-- The root is written. -/
theorem KeyAt.root {w : World} {kb : Nat} {sd rt : Array Value} {lv : Value} (hs : sd.size = 16) (h : KeyAt w kb sd lv rt) (rs : Array Value) (hr : rs.size = 16) : KeyAt (w.setCells kb 17 rs.toList) kb sd lv rs := by
  have ht := h.2.2.2
  refine ⟨World.rangeAt_setCells_apart h.1 _ _ _ (.inr (.inl (by rw [Array.length_toList, hs]; omega))), ?_, World.rangeAt_setCells_same w kb 17 rs.toList (there_sub ht (by omega) (by rw [Array.length_toList, hr]; omega)), World.there_setCells ht _ _ _⟩
  have h1 : w.rangeAt kb 16 [lv] := fun j v hv => by
    have hj : j = 0 := by have := (List.getElem?_eq_some_iff.1 hv).1; simp at this; omega
    subst hj
    have : lv = v := by simpa using hv
    subst this
    exact h.2.1
  have := World.rangeAt_setCells_apart h1 kb 17 rs.toList (.inr (.inl (by simp))) 0 lv rfl
  simpa using this

/-- A seed's leaves, and its root. -/
def leavesC (seed : List Int) : List (List Int) := upto (fun k => pubS seed (k : Int)) 32
def rootC (seed : List Int) : List Int := nodeC (leavesC seed) 5 0
theorem leavesC_length (seed : List Int) : (leavesC seed).length = 32 := upto_length _ _
theorem leavesC_dig (seed : List Int) : ∀ p ∈ leavesC seed, isDig p := by
  intro p hp
  simp only [leavesC, upto, List.mem_map] at hp
  obtain ⟨k, _, rfl⟩ := hp
  exact pubS_dig _ _
theorem leavesC_get {seed : List Int} {k : Nat} (h : k < 32) : (leavesC seed).getD k zeroC = pubS seed (k : Int) := by rw [leavesC, upto_get h]
theorem rootC_dig (seed : List Int) : isDig (rootC seed) := nodeC_dig (leavesC_dig seed) _ _
def leafV (seed : List Int) (k : Nat) : Array Value := arrV .u8 (pubS seed (k : Int))
theorem leafV_size (seed : List Int) (k : Nat) : (leafV seed k).size = 16 := by rw [leafV, arr_size]; exact (pubS_dig _ _).1
/-- A row in the making: the key's cell of the leaves. -/
def KeyRow (w : World) (kb base : Nat) (sd : Array Value) (n : Nat) (L : List Value) : Prop := ∃ v, KeyAt w kb sd v #[.int .u8 0, .int .u8 0, .int .u8 0, .int .u8 0, .int .u8 0, .int .u8 0, .int .u8 0, .int .u8 0, .int .u8 0, .int .u8 0, .int .u8 0, .int .u8 0, .int .u8 0, .int .u8 0, .int .u8 0, .int .u8 0] ∧ w.ownsRow base 24 16 v n L

end Go.Proofs.YtmoebkdbnldbdaaGreatDoor
