/-
  Several texts in one: Base, Ev, Wire, CdP.
-/
import Derived.Test.YtmoebkdbnldbdaaGreatDoorRows
import Derived.WalkKit
import Derived.WalkSpells
import Derived.WalkLawsBesides
import Derived.Lib.Hide
import Derived.Lib.SmallJoins
import Derived.Lib.UnsafeStr
import Derived.Laws.IdiomStrings
import Derived.Maps.AppendAt
import Derived.Deep.QuietTactic
import Derived.BigQuiet
import Derived.Deep.RegionWith
/-
  Plain words for the walks of this seat: which blocks a call may turn, a block that is known whole, bytes that lie at an address. It names no function of the program.
-/
namespace Go.Proofs.YtmoebkdbnldbdaaGreatDoor
open Go.RowKit

/-- Block g is just these cells of type t; none is frozen. -/
def Blk (w : World) (g : Nat) (t : TypeId) (cs : Array Value) : Prop := w.heap[g]? = some (.cells cs t (0, 0))

section
variable {w w' : World} {g : Nat} {t : TypeId} {cs : Array Value}
theorem Blk.lt (h : Blk w g t cs) : g < w.heap.size := by
  rcases Nat.lt_or_ge g w.heap.size with hlt | hge
  · exact hlt
  · unfold Blk at h; rw [Array.getElem?_eq_none hge] at h; cases h
theorem Blk.cell (h : Blk w g t cs) (i : Nat) : w.cell? ⟨g, i, none⟩ = cs[i]? := Joins.cell_of_block h i
theorem Blk.frozen (h : Blk w g t cs) (i : Nat) : w.frozen? ⟨g, i, none⟩ = false := Joins.unfrozen_of_block h i
theorem Blk.new (w : World) (t : TypeId) (cs : Array Value) : Blk (w.alloc (.cells cs t)) w.heap.size t cs := heap_alloc_new w _
theorem Blk.drew (h : Blk w g t cs) : Blk w.drew g t cs := h
theorem Blk.alloc (h : Blk w g t cs) (o : Obj) : Blk (w.alloc o) g t cs := (Below.heap_alloc w o g h.lt).trans h
theorem Blk.set (h : Blk w g t cs) (i : Nat) (u : Value) : Blk (w.setCell ⟨g, i, none⟩ u) g t (cs.setIfInBounds i u) := Joins.block_setCell h u
theorem Blk.far (h : Blk w g t cs) {p : Addr} (hp : g ≠ p.block) (u : Value) : Blk (w.setCell p u) g t cs := (Below.heap_setCell w p u g hp).trans h
theorem Blk.below {B : Nat} (h : Blk w g t cs) (hb : Below B w w') (hg : g < B) : Blk w' g t cs := (hb.block g hg).trans h
theorem Blk.grown {row : Option Nat} (h : Blk w g t cs) (hb : w.grownBy w' row) (hg : some g ≠ row) : Blk w' g t cs := (hb.block g h.lt hg).trans h
theorem Blk.ne {g' : Nat} {t' : TypeId} {cs' : Array Value} (h : Blk w g t cs) (h' : Blk w g' t' cs') (hne : t ≠ t') : g ≠ g' := by
  rintro rfl
  unfold Blk at h h'
  rw [h] at h'
  injection h' with h'
  injection h' with _ ht
  exact hne ht
end

theorem own_ne {w : World} {base : Nat} {e : TypeId} {size n : Nat} {v : Value} {xs : List Value} {g : Nat} {t : TypeId} {cs : Array Value} (h : w.ownsRow base e size v n xs) (hg : Blk w g t cs) (hne : e ≠ t) : v.ownBlock ≠ some g := by
  rcases h.2 with ⟨rfl, _⟩ | ⟨g', cap, cur, rfl, _, hh, _⟩
  · simp [Value.ownBlock]
  · intro he
    have : g' = g := by simpa [Value.ownBlock] using he
    subst this
    exact Blk.ne (t := e) hh hg hne rfl

/-- What is owned stays when a block of another type is written. -/
theorem own_far {w : World} {base : Nat} {e : TypeId} {size n : Nat} {v : Value} {xs : List Value} {g : Nat} {t : TypeId} {cs : Array Value} (h : w.ownsRow base e size v n xs) (hg : Blk w g t cs) (hne : e ≠ t) (i : Nat) (u : Value) : (w.setCell ⟨g, i, none⟩ u).ownsRow base e size v n xs := by
  have hn := own_ne h hg hne
  obtain ⟨h1, h2⟩ := h
  refine ⟨h1, ?_⟩
  rcases h2 with h2 | ⟨g', cap, cur, hv, hb, hh, r⟩
  · exact .inl h2
  · refine .inr ⟨g', cap, cur, hv, hb, ?_, r⟩
    rw [Below.heap_setCell _ _ _ _ (by rintro rfl; exact hn (by rw [hv]; rfl))]
    exact hh

/-- The bytes l lie at A (any A, if there are none). -/
def BytesAt (w : World) (A : Option Addr) (l : List UInt8) : Prop :=
  l ≠ [] → ∃ ad, A = some ad ∧ ∀ j (h : j < l.length), w.cell? (ad.add j) = some (.int .u8 l[j].toNat)

theorem block_add (a : Addr) (n : Nat) : (a.add n).block = a.block := by unfold Addr.add; split <;> rfl

section
variable {w w' : World} {A : Option Addr} {l : List UInt8}
theorem BytesAt.nil (w : World) (A : Option Addr) : BytesAt w A [] := fun h => absurd rfl h
theorem BytesAt.one (w : World) {x : Value} {b : UInt8} {t : TypeId} (h : x = .int .u8 b.toNat) : BytesAt (w.alloc (.cells #[x] t)) (some ⟨w.heap.size, 0, none⟩) [b] := fun _ => by
  subst h
  refine ⟨_, rfl, fun j hj => ?_⟩
  have h0 : j = 0 := by simpa using hj
  subst h0
  exact (Blk.new w t #[.int .u8 (b.toNat : Nat)]).cell 0
theorem BytesAt.keep (h : BytesAt w A l) (hk : ∀ ad : Addr, A = some ad → w.cell? (ad.add 0) ≠ none → ∀ i, w'.cell? (ad.add i) = w.cell? (ad.add i)) : BytesAt w' A l := fun hl => by
  obtain ⟨ad, rfl, hc⟩ := h hl
  refine ⟨ad, rfl, fun j hj => ?_⟩
  have h0 : 0 < l.length := by omega
  rw [hk ad rfl (by rw [hc 0 h0]; simp) j, hc j hj]
theorem BytesAt.below {B : Nat} (h : BytesAt w A l) (hb : Below B w w') (hA : ∀ ad, A = some ad → ad.block < B) : BytesAt w' A l :=
  h.keep fun ad e _ i => hb.cell (by rw [block_add]; exact hA ad e)
theorem BytesAt.grown {row : Option Nat} (h : BytesAt w A l) (hb : w.grownBy w' row) (hA : ∀ ad, A = some ad → some ad.block ≠ row) : BytesAt w' A l :=
  h.keep fun ad e h0 i => World.cell?_of_block (hb.block _ (by
    rw [block_add]
    obtain ⟨v, hv⟩ := Option.ne_none_iff_exists'.1 h0
    have := World.block_lt_of_cell? w _ hv
    rwa [block_add] at this) (by rw [block_add]; exact hA ad e))
theorem BytesAt.alloc (h : BytesAt w A l) (o : Obj) : BytesAt (w.alloc o) A l := h.grown (World.grownBy_alloc w o none) (fun _ _ => by simp)
end

theorem grown_set {w : World} (g : Nat) {i : Nat} (u : Value) : w.grownBy (w.drew.setCell ⟨g, i, none⟩ u) (some g) :=
  ⟨rfl, rfl, rfl, by simp [World.setCell], fun k _ hne => (Below.heap_setCell w.drew ⟨g, i, none⟩ u k (fun e => hne (by rw [e])))⟩
theorem grown_alloc {w w' : World} {o : Obj} {row : Option Nat} (hg : (w.alloc o).grownBy w' row) (hr : ∀ g, row = some g → w.heap.size ≤ g) : w.grownBy w' none :=
  ⟨hg.os, hg.tape, hg.output, Nat.le_trans (by simp) hg.size, fun k hk _ => (hg.block k (by simp; omega) (by intro e; have := hr k e.symm; omega)).trans (Below.heap_alloc w o k hk)⟩
theorem grown_new {w w' : World} {o : Obj} {n c : Nat} (hg : (w.alloc o).grownBy w' (Value.slice (some ⟨w.heap.size, 0, none⟩) n c).ownBlock) : w.grownBy w' none :=
  grown_alloc hg (by intro g h; simp [Value.ownBlock] at h; omega)
theorem grown_trans {a b c : World} {row : Option Nat} (h : a.grownBy b row) (k : b.grownBy c row) : a.grownBy c row :=
  ⟨k.os.trans h.os, k.tape.trans h.tape, k.output.trans h.output, Nat.le_trans h.size k.size, fun i hi hne => (k.block i (Nat.lt_of_lt_of_le hi h.size) hne).trans (h.block i hi hne)⟩
theorem grown_weak {a b : World} (h : a.grownBy b none) (row : Option Nat) : a.grownBy b row :=
  ⟨h.os, h.tape, h.output, h.size, fun i hi _ => h.block i hi (by simp)⟩
theorem grown_drew {a b : World} {row : Option Nat} (h : a.grownBy b row) : a.grownBy b.drew row := ⟨h.os, h.tape, h.output, h.size, h.block⟩
theorem below_grown {w w' : World} {B : Nat} {row : Option Nat} (h : w.grownBy w' row) (hB : B ≤ w.heap.size) (hr : ∀ g, row = some g → B ≤ g) : Below B w w' :=
  (Below.refl B w).grown h hB hr
/-! ### Which blocks may turn -/
/-- Of the blocks that were there none has turned but those of F. -/
structure Kept (F : Nat → Prop) (w w' : World) : Prop where
  os : w'.os = w.os
  tape : w'.tape = w.tape
  output : w'.output = w.output
  size : w.heap.size ≤ w'.heap.size
  block : ∀ k, k < w.heap.size → ¬ F k → w'.heap[k]? = w.heap[k]?
/-- F, and the blocks from a to b. -/
def upTo (F : Nat → Prop) (a b : Nat) : Nat → Prop := fun k => F k ∨ (a ≤ k ∧ k < b)

section
variable {F G : Nat → Prop} {w w' w'' : World}
theorem Kept.refl (F : Nat → Prop) (w : World) : Kept F w w := ⟨rfl, rfl, rfl, Nat.le_refl _, fun _ _ _ => rfl⟩
theorem Kept.trans (h : Kept F w w') (k : Kept (upTo F w.heap.size w'.heap.size) w' w'') : Kept F w w'' :=
  ⟨k.os.trans h.os, k.tape.trans h.tape, k.output.trans h.output, Nat.le_trans h.size k.size, fun i hi hn =>
    (k.block i (Nat.lt_of_lt_of_le hi h.size) (by rintro (hf | ⟨hf, _⟩); exact hn hf; omega)).trans (h.block i hi hn)⟩
theorem Kept.mono (h : Kept F w w') (hF : ∀ k, k < w.heap.size → F k → G k) : Kept G w w' :=
  ⟨h.os, h.tape, h.output, h.size, fun i hi hn => h.block i hi fun hf => hn (hF i hi hf)⟩
theorem Kept.of_grown {row : Option Nat} (h : w.grownBy w' row) (hr : ∀ g, row = some g → F g) : Kept F w w' :=
  ⟨h.os, h.tape, h.output, h.size, fun i hi hn => h.block i hi (by intro e; exact hn (hr i e.symm))⟩
theorem Kept.alloc (h : Kept F w w') (o : Obj) : Kept F w (w'.alloc o) :=
  ⟨h.os, h.tape, h.output, Nat.le_trans h.size (by simp), fun i hi hn => (Below.heap_alloc w' o i (Nat.lt_of_lt_of_le hi h.size)).trans (h.block i hi hn)⟩
theorem Kept.drew (h : Kept F w w') : Kept F w w'.drew := ⟨h.os, h.tape, h.output, h.size, h.block⟩
theorem Kept.set (h : Kept F w w') {p : Addr} (hp : F p.block ∨ w.heap.size ≤ p.block) (u : Value) : Kept F w (w'.setCell p u) :=
  ⟨h.os, h.tape, h.output, by simpa [World.setCell] using h.size, fun i hi hn => (Below.heap_setCell w' p u i (by
    rintro rfl
    rcases hp with hp | hp
    · exact hn hp
    · omega)).trans (h.block i hi hn)⟩
theorem Kept.below {B : Nat} (h : Kept F w w') (hB : B ≤ w.heap.size) (hF : ∀ k, F k → B ≤ k) : Below B w w' :=
  ⟨h.os, h.tape, h.output, h.size, fun k hk => h.block k (by omega) fun hf => by have := hF k hf; omega⟩
theorem Kept.grownNone (h : Kept F w w') (hF : ∀ k, k < w.heap.size → ¬ F k) : w.grownBy w' none :=
  ⟨h.os, h.tape, h.output, h.size, fun k hk _ => h.block k hk (hF k hk)⟩
theorem Kept.cell (h : Kept F w w') {a : Addr} {v : Value} (hv : w.cell? a = some v) (hn : ¬ F a.block) : w'.cell? a = some v :=
  (World.cell?_of_block (h.block a.block (World.block_lt_of_cell? w a hv) hn)).trans hv
theorem Blk.kept {g : Nat} {t : TypeId} {cs : Array Value} (h : Blk w g t cs) (hk : Kept F w w') (hn : ¬ F g) : Blk w' g t cs := (hk.block g h.lt hn).trans h
theorem BytesAt.kept {A : Option Addr} {l : List UInt8} (h : BytesAt w A l) (hk : Kept F w w') (hA : ∀ ad, A = some ad → ¬ F ad.block) : BytesAt w' A l :=
  h.keep fun ad e h0 i => World.cell?_of_block (hk.block _ (by
    rw [block_add]
    obtain ⟨v, hv⟩ := Option.ne_none_iff_exists'.1 h0
    have := World.block_lt_of_cell? w _ hv
    rwa [block_add] at this) (by rw [block_add]; exact hA ad e))
theorem BytesAt.kept' {A : Option Addr} {l : List UInt8} (h : BytesAt w A l) (hk : Kept F w w') (hA : ∀ ad, A = some ad → l ≠ [] → ¬ F ad.block) : BytesAt w' A l := fun hl =>
  h.kept hk (fun ad e => hA ad e hl) hl
theorem upTo_le {a b c : Nat} (h1 : a ≤ b) (h2 : b ≤ c) : ∀ k, upTo (upTo F a b) b c k → upTo F a c k := by
  rintro k ((hf | ⟨h3, h4⟩) | ⟨h3, h4⟩)
  · exact .inl hf
  · exact .inr ⟨h3, by omega⟩
  · exact .inr ⟨by omega, h4⟩
theorem upTo_alloc {a b c : Nat} (h1 : a ≤ b) (h2 : b + 1 ≤ c) : ∀ k, upTo (upTo F a b) (b + 1) c k → upTo F a c k := by
  rintro k ((hf | ⟨h3, h4⟩) | ⟨h3, h4⟩)
  · exact .inl hf
  · exact .inr ⟨h3, by omega⟩
  · exact .inr ⟨by omega, h4⟩
theorem upTo_more {a b : Nat} (_ : a ≤ b) : ∀ k, upTo F a b k → upTo F a (b + 1) k := by
  rintro k (hf | ⟨h3, h4⟩)
  · exact .inl hf
  · exact .inr ⟨h3, by omega⟩
theorem own_kept {base : Nat} {e : TypeId} {size n : Nat} {v : Value} {xs : List Value} (h : w.ownsRow base e size v n xs) (hk : Kept F w w') (hn : ∀ k, v.ownBlock = some k → ¬ F k) : w'.ownsRow base e size v n xs := by
  obtain ⟨h1, h2⟩ := h
  refine ⟨h1, ?_⟩
  rcases h2 with h2 | ⟨g', cap, cur, hv, hb, hh, r⟩
  · exact .inl h2
  · exact .inr ⟨g', cap, cur, hv, hb, (hk.block g' (Array.getElem?_eq_some_iff.1 hh).1 (hn g' (by rw [hv]; rfl))).trans hh, r⟩
theorem upTo_low {B a b : Nat} (hF : ∀ k, F k → B ≤ k) (hB : B ≤ a) : ∀ k, upTo F a b k → B ≤ k := by
  rintro k (hf | ⟨h1, _⟩)
  · exact hF k hf
  · omega
theorem upTo_old {a b k : Nat} (hk : k < a) (h : upTo F a b k) : F k := by
  rcases h with h | ⟨h, _⟩
  · exact h
  · omega
end
theorem below_drewN {B : Nat} {a w : World} (h : Below B a w) (n : Nat) : Below B a (w.drewN n) := ⟨h.os, h.tape, h.output, h.size, h.block⟩
/-! ### append of bytes that lie anywhere (nil and empty sources too) onto a row of the call's own -/
section
variable {P : Program} (w : World)

theorem run_append_nilsrc (base : Nat) (t ty e : TypeId) (i : TypeInfo) (size : Nat) (ht : P.underlying t = some (.slice e)) (hi : P.info? e = some i)
    (v : Value) (n : Nat) (xs : List Value) (hown : w.ownsRow base e size v n xs) (c : Nat) : (Builtin.append_ #[t, t] ty #[v, .slice none 0 c]).run P w = .ok v w := by
  rcases hown.2 with ⟨rfl, rfl⟩ | ⟨g, cap, cur, rfl, _, _, hnc, _⟩
  · simp [Builtin.append_, run_underlying ht, sizeOf, typeInfo, hi, Builtin.lenOf, Builtin.firstCells]
  · simp [Builtin.append_, run_underlying ht, sizeOf, typeInfo, hi, Builtin.lenOf, Builtin.firstCells, hnc, storeCells]

theorem own_slice {base : Nat} {e : TypeId} {size n : Nat} {v : Value} {xs : List Value} (h : w.ownsRow base e size v n xs) : ∃ A cap, v = .slice A n cap := by
  rcases h.2 with ⟨rfl, rfl⟩ | ⟨g, cap, cur, rfl, _⟩
  · exact ⟨none, 0, rfl⟩
  · exact ⟨_, cap, rfl⟩

theorem byteCells_get {l : List UInt8} {j : Nat} {u : Value} (h : (Lib.byteCells l)[j]? = some u) : ∃ hj : j < l.length, u = .int .u8 l[j].toNat := by
  have hj : j < l.length := by
    have := (List.getElem?_eq_some_iff.1 h).1
    simpa [Lib.byteCells] using this
  refine ⟨hj, ?_⟩
  simp [Lib.byteCells, List.getElem?_eq_getElem hj] at h
  exact h.symm

theorem run_append_bytes (base : Nat) (t ty e : TypeId) (i : TypeInfo) (z : Value) (ht : P.underlying t = some (.slice e)) (hi : P.info? e = some i) (hz : i.zero = some z)
    (hsize : i.size = 1) (hby : i.bytes = 1) (hzs : z.cells.size = 1)
    (v : Value) (n : Nat) (xs : List Value) (hown : w.ownsRow base e 1 v n xs)
    (A : Option Addr) (c : Nat) (l : List UInt8) (hr : BytesAt w A l) (h63 : n + l.length ≤ 140737488355328) (hbase : base ≤ w.heap.size) :
    ∃ A' cap' w', (Builtin.append_ #[t, t] ty #[v, .slice A l.length c]).run P w = .ok (.slice A' (n + l.length) cap') w' ∧ w'.ownsRow base e 1 (.slice A' (n + l.length) cap') (n + l.length) (xs ++ Lib.byteCells l) ∧ w.grownBy w' v.ownBlock ∧
      ((Value.slice A' (n + l.length) cap').ownBlock = v.ownBlock ∨ (Value.slice A' (n + l.length) cap').ownBlock = some w.heap.size) := by
  have key : ∃ v' w', (Builtin.append_ #[t, t] ty #[v, .slice A l.length c]).run P w = .ok v' w' ∧ w'.ownsRow base e 1 v' (n + l.length) (xs ++ Lib.byteCells l) ∧ w.grownBy w' v.ownBlock ∧ (v'.ownBlock = v.ownBlock ∨ v'.ownBlock = some w.heap.size) := by
    rcases A with _ | ad
    · have hl : l = [] := by
        rcases l with _ | ⟨x, r⟩
        · rfl
        · obtain ⟨ad, h, _⟩ := hr (by simp)
          cases h
      subst hl
      exact ⟨v, w, run_append_nilsrc w base t ty e i 1 ht hi v n xs hown c, by simpa [Lib.byteCells] using hown, World.grownBy.refl w _, .inl rfl⟩
    · have hcells : ∀ j u, (Lib.byteCells l)[j]? = some u → w.cell? (ad.add j) = some u := by
        intro j u hu
        obtain ⟨hj, rfl⟩ := byteCells_get hu
        obtain ⟨ad', h, hc⟩ := hr (by intro e; subst e; simp at hj)
        injection h with h
        subst h
        exact hc j hj
      obtain ⟨v', w', hrun, h2, h3, _, h5⟩ := run_append_own_at (P := P) w base t ty e i z 1 1 ht hi hz hsize hby hzs (by omega) v n xs hown ad l.length c (Lib.byteCells l) (by simp [Lib.byteCells]) hcells (by intro u hu; simp [Lib.byteCells] at hu; obtain ⟨b, _, rfl⟩ := hu; rfl) (by unfold maxLen; omega) (by omega) hbase
      exact ⟨v', w', hrun, h2, h3, h5⟩
  obtain ⟨v', w', h1, h2, h3, h4⟩ := key
  obtain ⟨A', cap', rfl⟩ := own_slice w' h2
  exact ⟨A', cap', w', h1, h2, h3, h4⟩

theorem wp_append_bytes {o : Oper} {a : Act} {K : Act → World → Prop} {Q : Exit → Act → World → Prop} (s x : Operand) (t : TypeId)
    (ho : o.op = .call { callee := .builtin .append, args := #[s, x], argTypes := #[t, t] })
    (base : Nat) (e : TypeId) (i : TypeInfo) (z : Value) (ht : P.underlying t = some (.slice e)) (hi : P.info? e = some i) (hz : i.zero = some z)
    (hsize : i.size = 1) (hby : i.bytes = 1) (hzs : z.cells.size = 1)
    (v : Value) (n : Nat) (xs : List Value) (hs : a.eval s = v) (hown : w.ownsRow base e 1 v n xs)
    (A : Option Addr) (c : Nat) (l : List UInt8) (hx : a.eval x = .slice A l.length c) (hr : BytesAt w A l) (h63 : n + l.length ≤ 140737488355328) (hbase : base ≤ w.heap.size)
    (h : ∀ A' cap' w', w'.ownsRow base e 1 (.slice A' (n + l.length) cap') (n + l.length) (xs ++ Lib.byteCells l) → w.grownBy w' v.ownBlock → ((Value.slice A' (n + l.length) cap').ownBlock = v.ownBlock ∨ (Value.slice A' (n + l.length) cap').ownBlock = some w.heap.size) → K (a.put o.dst (.slice A' (n + l.length) cap')) w') : o.wp P a w K Q := by
  obtain ⟨A', cap', w', hrun, h2, h3, h4⟩ := run_append_bytes (P := P) w base t o.type e i z ht hi hz hsize hby hzs v n xs hown A c l hr h63 hbase
  unfold Oper.wp execOp
  simp only [ho, resolve, invoke, builtin, Sem.run_bind, Sem.run_pure, Result.andThen_ok, List.map_toArray, List.map_cons, List.map_nil, hs, hx, hrun]
  exact h A' cap' w' h2 h3 h4

theorem wpList_append_bytes {ops : Array Oper} {rest : List Oper} {o : Oper} {a : Act} {Q : Exit → Act → World → Prop} (hgd : o.guard = none) (s x : Operand) (t : TypeId)
    (ho : o.op = .call { callee := .builtin .append, args := #[s, x], argTypes := #[t, t] })
    (base : Nat) (e : TypeId) (i : TypeInfo) (z : Value) (ht : P.underlying t = some (.slice e)) (hi : P.info? e = some i) (hz : i.zero = some z)
    (hsize : i.size = 1) (hby : i.bytes = 1) (hzs : z.cells.size = 1)
    (v : Value) (n : Nat) (xs : List Value) (hs : a.eval s = v) (hown : w.ownsRow base e 1 v n xs)
    (A : Option Addr) (c : Nat) (l : List UInt8) (hx : a.eval x = .slice A l.length c) (hr : BytesAt w A l) (h63 : n + l.length ≤ 140737488355328) (hbase : base ≤ w.heap.size)
    (h : ∀ A' cap' w', w'.ownsRow base e 1 (.slice A' (n + l.length) cap') (n + l.length) (xs ++ Lib.byteCells l) → w.grownBy w' v.ownBlock → ((Value.slice A' (n + l.length) cap').ownBlock = v.ownBlock ∨ (Value.slice A' (n + l.length) cap').ownBlock = some w.heap.size) → wpList P ops Q rest (a.put o.dst (.slice A' (n + l.length) cap')) w') : wpList P ops Q (o :: rest) a w :=
  wpList_plain hgd fun _ hK => wp_append_bytes w s x t ho base e i z ht hi hz hsize hby hzs v n xs hs hown A c l hx hr h63 hbase fun A' cap' w' h2 h3 h4 => hK _ _ (h A' cap' w' h2 h3 h4)
end

end Go.Proofs.YtmoebkdbnldbdaaGreatDoor
/-
  An error's value, and a variable that holds one.
-/
namespace Go.Proofs.YtmoebkdbnldbdaaGreatDoor
open Go.RowKit

/-- The error value at address a. -/
abbrev errV (a : Addr) : Value := .iface 207 (.pointer (some a))
/-- The variable k holds the error at a; both lie below B. -/
def ErrAt (w : World) (B k : Nat) (a : Addr) : Prop := w.cell? ⟨k, 0, none⟩ = some (errV a) ∧ k < B
theorem ErrAt.below {w w' : World} {B B' k : Nat} {a : Addr} (h : ErrAt w B k a) (hb : Below B' w w') (hB : B ≤ B') : ErrAt w' B k a :=
  ⟨(hb.cell (p := ⟨k, 0, none⟩) (Nat.lt_of_lt_of_le h.2 hB)).trans h.1, h.2⟩
theorem ErrAt.grown {w w' : World} {B k : Nat} {a : Addr} {row : Option Nat} (h : ErrAt w B k a) (hb : w.grownBy w' row) (hr : ∀ g, row = some g → B ≤ g) : ErrAt w' B k a :=
  ⟨hb.cell h.1 (by intro e; have := hr k e.symm; have := h.2; omega), h.2⟩
/-- What stands in a variable of type error: nil, or the error of that number. -/
def evOf (E : Nat → Addr) : Nat → Value
  | 0 => .nilIface
  | k + 1 => errV (E k)

end Go.Proofs.YtmoebkdbnldbdaaGreatDoor
/-
  The contracts of package wire's Writer: what each call leaves of the Writer's block and of the bytes that it owns.
-/
namespace Go.Proofs.YtmoebkdbnldbdaaGreatDoor
open Go.RowKit

theorem u8_info : (Tryz.prog.info? 5).map (fun i => (i.zero, i.size, i.bytes)) = some (some (.int .u8 0), 1, 1) := by kernel_rfl

/-- The Writer at block g holds the error value ev and the bytes l; it, and the row of the bytes, lie among the blocks F. -/
def WrIs (w : World) (F : Nat → Prop) (g : Nat) (ev : Value) (l : List UInt8) : Prop :=
  F g ∧ ∃ bA bc, Blk w g 163 #[ev, .slice bA l.length bc] ∧ w.ownsRow 0 5 1 (.slice bA l.length bc) l.length (Lib.byteCells l) ∧ ∀ ad, bA = some ad → F ad.block
theorem WrIs.mono {w : World} {F G : Nat → Prop} {g : Nat} {ev : Value} {l : List UInt8} (h : WrIs w F g ev l) (hF : ∀ k, k < w.heap.size → F k → G k) : WrIs w G g ev l := by
  obtain ⟨hg, bA, bc, hb, hown, hA⟩ := h
  exact ⟨hF g hb.lt hg, bA, bc, hb, hown, by rintro ad rfl; exact hF _ (hown.lt ad.block rfl).2 (hA ad rfl)⟩

theorem own_in {F : Nat → Prop} {A : Option Addr} {n c k : Nat} (hF : ∀ ad, A = some ad → F ad.block) (h : (Value.slice A n c).ownBlock = some k) : F k := by
  rcases A with _ | ad
  · simp [Value.ownBlock] at h
  · have : ad.block = k := by simpa [Value.ownBlock] using h
    rw [← this]; exact hF ad rfl

set_option maxHeartbeats 400000 in
theorem write_ok (w : World) (F : Nat → Prop) (g : Nat) (l : List UInt8) (A : Option Addr) (m c : Nat) (x : List UInt8) (hm : x.length = m) (hw : WrIs w F g .nilIface l) (hx : BytesAt w A x)
    (hn : l.length + x.length ≤ 140737488355328) :
    Calls Tryz.prog 92 #[.pointer (some ⟨g, 0, none⟩), .slice A m c] w fun e w' => e = .returned (.tuple #[]) ∧ WrIs w' (upTo F w.heap.size w'.heap.size) g .nilIface (l ++ x) ∧ Kept F w w' := by
  subst hm
  obtain ⟨hBg, bA, bc, hb, hown, hF⟩ := hw
  obtain ⟨i0, hi, hz0, hz1, hz2⟩ := info_parts u8_info
  have c0 := hb.cell 0
  have c1 := hb.cell 1
  simp at c0 c1
  go_enter Tryz.func92, Tryz.ntmps92
  go_wp2_with (at_builtin; refine wpList_append_bytes _ rfl _ _ 61 rfl 0 5 i0 (.int .u8 0) Tryz.underlying61 hi hz0 hz1 hz2 rfl _ _ _ rfl hown A c x rfl hx hn (Nat.zero_le _) ?_)
  intro A' cap' w1 hown1 hgrow hat
  have hb1 : Blk w1 g 163 #[.nilIface, .slice bA l.length bc] := hb.grown hgrow (own_ne hown hb (by decide)).symm
  have d1 := hb1.cell 1
  have f1 := hb1.frozen 1
  simp at d1
  go_wp2
  go_end0
  refine ⟨rfl, ⟨.inl hBg, A', cap', ?_, ?_, ?_⟩, (Kept.of_grown hgrow fun k hk => own_in hF hk).set (.inl hBg) _⟩
  · have := hb1.set 1 (.slice A' (l.length + x.length) cap')
    simpa [List.length_append] using this
  · have := own_far hown1 hb1 (by decide) 1 (.slice A' (l.length + x.length) cap')
    rw [Lib.byteCells_append, List.length_append]
    exact this
  · rintro ad rfl
    have hlt := (hown1.lt ad.block rfl).2
    rcases hat with h | h
    · exact .inl (own_in hF h.symm)
    · have : ad.block = w.heap.size := by simpa [Value.ownBlock] using h
      exact .inr ⟨by omega, by simpa [World.setCell] using hlt⟩

set_option maxHeartbeats 400000 in
theorem write_err (w : World) (F : Nat → Prop) (g : Nat) (t : TypeId) (v : Value) (l : List UInt8) (A : Option Addr) (n c : Nat) (hw : WrIs w F g (.iface t v) l) :
    Calls Tryz.prog 92 #[.pointer (some ⟨g, 0, none⟩), .slice A n c] w fun e w' => e = .returned (.tuple #[]) ∧ w = w' := by
  obtain ⟨hBg, bA, bc, hb, hown, hF⟩ := hw
  have c0 := hb.cell 0
  simp at c0
  go_enter Tryz.func92, Tryz.ntmps92
  go_wp2
  go_end0
  exact ⟨rfl, rfl⟩

/-- The low k bytes of n, high byte first. -/
def be : Nat → Nat → List UInt8
  | 0, _ => []
  | k + 1, n => UInt8.ofNat (n / 256 ^ k) :: be k n

theorem WrIs.alloc {w : World} {F : Nat → Prop} {g : Nat} {ev : Value} {l : List UInt8} (h : WrIs w F g ev l) (o : Obj) : WrIs (w.alloc o) F g ev l := by
  obtain ⟨hBg, bA, bc, hb, hown, hF⟩ := h
  exact ⟨hBg, bA, bc, hb.alloc o, hown.alloc o, hF⟩
theorem be_length : ∀ k n, (be k n).length = k
  | 0, _ => rfl
  | k + 1, n => by simp [be, be_length k n]
theorem pow256 (k : Nat) : (2 : Nat) ^ (8 * k) = 256 ^ k := by rw [Nat.pow_mul]
theorem shr_cast (n k : Nat) : (n : Int) / 2 ^ (8 * k) = ((n / 256 ^ k : Nat) : Int) := by
  rw [← pow256]; simp
theorem u8_shr (n k : Nat) : Value.int .u8 ((n : Int) / 2 ^ (8 * k) % 256) = .int .u8 ((UInt8.ofNat (n / 256 ^ k)).toNat : Nat) := by
  rw [shr_cast]; congr 1
theorem shr_zero {n k : Nat} (h : n < 256 ^ k) : (n : Int) / 2 ^ (8 * k) = 0 := by
  rw [shr_cast, Nat.div_eq_of_lt h]; rfl

set_option maxHeartbeats 400000 in
theorem number_ok (w : World) (F : Nat → Prop) (g : Nat) (l : List UInt8) (n width : Nat) (hw : WrIs w F g .nilIface l)
    (h1 : 1 ≤ width) (h8 : width ≤ 8) (hn : n < 256 ^ width) (hl : l.length ≤ 70368744177664) :
    Calls Tryz.prog 76 #[.pointer (some ⟨g, 0, none⟩), .int .i64 (n : Int), .int .i64 (width : Int)] w fun e w' => e = .returned (.tuple #[]) ∧ WrIs w' (upTo F w.heap.size w'.heap.size) g .nilIface (l ++ be width n) ∧ Kept F w w' := by
  have a1 : decide ((width : Int) < 1) = false := by simp; omega
  have a2 : decide ((8 : Int) < (width : Int)) = false := by simp; omega
  have a3 : decide ((n : Int) < 0) = false := by simp
  have a4 : (((n : Int) / 2 ^ (8 * width)) != 0) = false := by rw [shr_zero hn]; rfl
  go_enter Tryz.func76, Tryz.ntmps76
  go_wp2_with fail
  go_loopw [6] (fun i wr => ∃ k done, k ≤ width ∧ done ++ be k n = be width n ∧ i = .int .i64 ((k : Int) - 1) ∧ WrIs wr (upTo F w.heap.size wr.heap.size) g .nilIface (l ++ done) ∧ Kept F w wr) (fun i _ => (intOf i + 1).toNat)
  case atStart => exact ⟨width, [], Nat.le_refl _, rfl, rfl, by simpa using hw.mono fun k _ h => .inl h, Kept.refl _ _⟩
  case round =>
    obtain ⟨k, done, hk, hd, hi, hwr, hbel⟩ := hrel
    rcases k with _ | k
    · subst hi
      go_wp2_with fail
      go_end0
      refine ⟨rfl, ?_, hbel⟩
      rw [← hd]
      simpa [be] using hwr
    · have hi' := hi.trans (show Value.int .i64 (((k + 1 : Nat) : Int) - 1) = .int .i64 (k : Int) by congr 1; omega)
      clear hi
      subst hi'
      have hsz := hbel.size
      have hdl : done.length ≤ 8 := by have := congrArg List.length hd; rw [List.length_append, be_length, be_length] at this; omega
      have Hd := Lib.hid hd
      clear hd
      go_wp2_with fail
      refine (write_ok _ _ g (l ++ done) _ 1 _ [UInt8.ofNat (n / 256 ^ k)] rfl (hwr.alloc _) (BytesAt.one _ (u8_shr n k)) ?_).mono ?_
      · simp; omega
      rintro e w1 ⟨rfl, hwr1, hbel1⟩
      have hsz1 := hbel1.size
      simp at hsz1
      go_wp2_with fail
      go_roundw
      case rel => exact ⟨k, done ++ [UInt8.ofNat (n / 256 ^ k)], by omega, by rw [← Hd.out]; simp [be], by go_num, by simpa using hwr1.mono fun k _ h => upTo_alloc hsz hsz1 k (by simpa using h), (hbel.alloc _).trans (hbel1.mono fun k _ h => by simpa using upTo_more hsz k h)⟩
      case measure => simp [intOf]

/-! ### Fail, and the Writer in the state 'error' -/

theorem fail_new (w : World) (g : Nat) (t u : TypeId) (v x : Value) (hb : Blk w g t #[.nilIface, x]) :
    Calls Tryz.prog 91 #[.pointer (some ⟨g, 0, none⟩), .iface u v] w fun e w' => e = .returned (.tuple #[]) ∧ w' = w.setCell ⟨g, 0, none⟩ (.iface u v) := by
  have c0 := hb.cell 0
  have f0 := hb.frozen 0
  simp at c0
  go_enter Tryz.func91, Tryz.ntmps91
  go_wp2
  go_end0
  exact ⟨rfl, rfl⟩

theorem fail_old (w : World) (g : Nat) (t u : TypeId) (v x y : Value) (hb : Blk w g t #[.iface u v, x]) :
    Calls Tryz.prog 91 #[.pointer (some ⟨g, 0, none⟩), y] w fun e w' => e = .returned (.tuple #[]) ∧ w = w' := by
  have c0 := hb.cell 0
  simp at c0
  go_enter Tryz.func91, Tryz.ntmps91
  go_wp2
  go_end0
  exact ⟨rfl, rfl⟩

theorem WrIs.drew {w : World} {F : Nat → Prop} {g : Nat} {ev : Value} {l : List UInt8} (h : WrIs w F g ev l) : WrIs w.drew F g ev l := h
theorem WrIs.failed {w : World} {F : Nat → Prop} {g : Nat} {ev u : Value} {l : List UInt8} (h : WrIs w F g ev l) : WrIs (w.setCell ⟨g, 0, none⟩ u) F g u l := by
  obtain ⟨hBg, bA, bc, hb, hown, hF⟩ := h
  exact ⟨hBg, bA, bc, by simpa using hb.set 0 u, own_far hown hb (by decide) 0 u, hF⟩
theorem WrIs.grown {w w' : World} {F : Nat → Prop} {g : Nat} {ev : Value} {l : List UInt8} (h : WrIs w F g ev l) (hg : w.grownBy w' none) : WrIs w' F g ev l := by
  obtain ⟨hBg, bA, bc, hb, hown, hF⟩ := h
  exact ⟨hBg, bA, bc, hb.grown hg (by simp), hown.kept hg (by cases hv : (Value.slice bA l.length bc).ownBlock <;> simp), hF⟩
theorem WrIs.kept {w w' : World} {F G : Nat → Prop} {g : Nat} {ev : Value} {l : List UInt8} (h : WrIs w F g ev l) (hk : Kept G w w') (hn : ∀ k, F k → ¬ G k) : WrIs w' F g ev l := by
  obtain ⟨hBg, bA, bc, hb, hown, hF⟩ := h
  exact ⟨hBg, bA, bc, hb.kept hk (hn g hBg), own_kept hown hk fun k hk => hn k (own_in hF hk), hF⟩
/-- n does not fit the width. -/
def badNum (n width : Int) : Bool := decide (width < 1) || decide (8 < width) || decide (n < 0) || ((n / 2 ^ (8 * width.toNat)) != 0)

theorem badNum_cases {n width : Int} (h : badNum n width = true) :
    decide (width < 1) = true ∨ (decide (width < 1) = false ∧ decide (8 < width) = true) ∨ (decide (width < 1) = false ∧ decide (8 < width) = false ∧ decide (n < 0) = true) ∨
    ∃ k m : Nat, width = (k : Int) ∧ n = (m : Int) ∧ decide ((k : Int) < 1) = false ∧ decide ((8 : Int) < (k : Int)) = false ∧ k ≤ 8 ∧ (((m : Int) / 2 ^ (8 * k)) != 0) = true := by
  unfold badNum at h
  cases h1 : decide (width < 1)
  · cases h2 : decide (8 < width)
    · cases h3 : decide (n < 0)
      · have e1 : ((width.toNat : Nat) : Int) = width := by simp at h1; omega
        have e2 : ((n.toNat : Nat) : Int) = n := by simp at h3; omega
        refine .inr (.inr (.inr ⟨width.toNat, n.toNat, e1.symm, e2.symm, ?_, ?_, ?_, ?_⟩))
        · rw [e1]; exact h1
        · rw [e1]; exact h2
        · simp at h2; omega
        · rw [e2]; simpa [h1, h2, h3] using h
      · exact .inr (.inr (.inl ⟨rfl, rfl, rfl⟩))
    · exact .inr (.inl ⟨rfl, rfl⟩)
  · exact .inl rfl

set_option maxHeartbeats 400000 in
theorem number_bad (w : World) (F : Nat → Prop) (B0 g : Nat) (l : List UInt8) (a : Addr) (n width : Int) (hw : WrIs w F g .nilIface l) (he : ErrAt w B0 1 a) (hbad : badNum n width = true) :
    Calls Tryz.prog 76 #[.pointer (some ⟨g, 0, none⟩), .int .i64 n, .int .i64 width] w fun e w' => e = .returned (.tuple #[]) ∧ WrIs w' F g (errV a) l ∧ w.grownBy w' (some g) := by
  have hw' := hw
  obtain ⟨hBg, bA, bc, hb, hown, hF⟩ := hw'
  have hr := he.1
  have Hw := Lib.hid hw
  rcases badNum_cases hbad with a1 | ⟨a1, a2⟩ | ⟨a1, a2, a3⟩ | ⟨k, m, rfl, rfl, a1, a2, a3, a4⟩
  all_goals
    clear hbad
    go_enter Tryz.func76, Tryz.ntmps76
    go_wp2_with fail
    go_region_with (go_at_call 91; refine (fail_new _ g 163 _ _ (.slice bA l.length bc) ?_).mono ?_; exact hb.drew; rintro e w1 ⟨rfl, rfl⟩)
    all_goals
      go_wp2
      first | go_end0 | refine bodyPost_ret (results_none rfl _ _ _) rfl ?_
      exact ⟨rfl, Hw.out.failed, grown_set _ _⟩
end Go.Proofs.YtmoebkdbnldbdaaGreatDoor
/-
  Messages as bytes: the document's forms as functions of what is written so far (the first error's number, the bytes).
-/

namespace Go.Proofs.YtmoebkdbnldbdaaGreatDoor
open Go.RowKit

abbrev WSt := Nat × List UInt8
/-- The first error stays. -/
def sFail (k : Nat) (s : WSt) : WSt := if s.1 = 0 then (k, s.2) else s
def sFix (x : List UInt8) (s : WSt) : WSt := if s.1 = 0 then (0, s.2 ++ x) else s
def sNum (n w : Int) (s : WSt) : WSt := if badNum n w = true then sFail 1 s else sFix (be w.toNat n.toNat) s
def sBytes (x : List UInt8) (most : Int) (s : WSt) : WSt := if most < (x.length : Int) ∨ 65535 < x.length then sFail 1 s else sFix x (sNum (x.length : Int) 2 s)
def sPut (n : Nat) (most : Int) (f : WSt → WSt) (s : WSt) : WSt := if most < (n : Int) ∨ 255 < n then sFail 1 s else f (sNum (n : Int) 1 s)
def sAll {α : Type} (f : α → WSt → WSt) (L : List α) (s : WSt) : WSt := L.foldl (fun s x => f x s) s
theorem sAll_nil {α : Type} (f : α → WSt → WSt) (s : WSt) : sAll f [] s = s := rfl
theorem sAll_snoc {α : Type} (f : α → WSt → WSt) (L : List α) (x : α) (s : WSt) : sAll f (L ++ [x]) s = f x (sAll f L s) := by simp [sAll, List.foldl_append]

/-- It writes at most so many bytes. -/
def Adds (c : Nat) (f : WSt → WSt) : Prop := ∀ s, (f s).2.length ≤ s.2.length + c
theorem Adds.mono {c d : Nat} {f : WSt → WSt} (h : Adds c f) (hcd : c ≤ d) : Adds d f := fun s => Nat.le_trans (h s) (by omega)
theorem Adds.comp {c d : Nat} {f g : WSt → WSt} (h : Adds c f) (k : Adds d g) : Adds (c + d) (fun s => g (f s)) := fun s => by
  have h1 := h s
  have h2 := k (f s)
  show (g (f s)).2.length ≤ _
  omega
theorem adds_fail (k c : Nat) : Adds c (sFail k) := fun s => by unfold sFail; split <;> simp <;> omega
theorem adds_fix (x : List UInt8) : Adds x.length (sFix x) := fun s => by unfold sFix; split <;> simp
theorem adds_num (n : Int) (w : Nat) : Adds w (sNum n (w : Int)) := fun s => by
  unfold sNum
  split
  · exact adds_fail 1 w s
  · exact Nat.le_trans (adds_fix _ s) (by rw [be_length]; simp)
theorem adds_all {α : Type} {f : α → WSt → WSt} {c : Nat} (L : List α) (h : ∀ x ∈ L, Adds c (f x)) : Adds (L.length * c) (sAll f L) := fun s => by
  induction L generalizing s with
  | nil => simp [sAll]
  | cons x r ih =>
    have h1 := ih (fun y hy => h y (List.mem_cons_of_mem _ hy)) (f x s)
    have h2 := h x (List.mem_cons_self ..) s
    have : sAll f (x :: r) s = sAll f r (f x s) := rfl
    rw [this, List.length_cons, Nat.succ_mul]
    omega
theorem adds_put {n : Nat} {most : Int} {c m : Nat} {f : WSt → WSt} (hm : most = (m : Int)) (h : n ≤ m → Adds (n * c) f) : Adds (1 + m * c) (sPut n most f) := fun s => by
  subst hm
  unfold sPut
  split
  · exact adds_fail 1 _ s
  · have hn : n ≤ m := by omega
    have h1 := adds_num (n : Int) 1 s
    have h2 := h hn (sNum (n : Int) 1 s)
    have h3 : n * c ≤ m * c := Nat.mul_le_mul_right c hn
    have h4 : sNum (n : Int) 1 s = sNum (n : Int) ((1 : Nat) : Int) s := rfl
    rw [h4] at h2 ⊢
    omega
theorem adds_bytes (x : List UInt8) (m : Nat) : Adds (2 + m) (sBytes x (m : Int)) := fun s => by
  unfold sBytes
  split
  · exact adds_fail 1 _ s
  · have h1 := adds_num (x.length : Int) 2 s
    have h2 := adds_fix x (sNum (x.length : Int) ((2 : Nat) : Int) s)
    have h4 : sNum (x.length : Int) 2 s = sNum (x.length : Int) ((2 : Nat) : Int) s := rfl
    rw [h4]
    omega

/-- A digest's bytes. -/
def dgB (d : List Int) : List UInt8 := d.map fun z => UInt8.ofNat z.toNat
theorem dgB_length (d : List Int) : (dgB d).length = d.length := by simp [dgB]
def sDig (d : List Int) : WSt → WSt := sFix (dgB d)
def sSig (lf : Int) (cs ps : List (List Int)) (s : WSt) : WSt := sPut ps.length 5 (sAll sDig ps) (sPut cs.length 68 (sAll sDig cs) (sNum lf 1 s))
theorem adds_dig {d : List Int} (h : d.length = 16) : Adds 16 (sDig d) := (adds_fix _).mono (by rw [dgB_length, h]; exact Nat.le_refl _)
theorem adds_digs {ds : List (List Int)} (h : ∀ d ∈ ds, d.length = 16) : Adds (ds.length * 16) (sAll sDig ds) := adds_all ds fun d hd => adds_dig (h d hd)
theorem adds_sig {lf : Int} {cs ps : List (List Int)} (hc : ∀ d ∈ cs, d.length = 16) (hp : ∀ d ∈ ps, d.length = 16) : Adds 1171 (sSig lf cs ps) :=
  (((adds_num lf 1).comp (adds_put (m := 68) rfl fun _ => adds_digs hc)).comp (adds_put (m := 5) rfl fun _ => adds_digs hp)).mono (by omega)
end Go.Proofs.YtmoebkdbnldbdaaGreatDoor
