/- Base, Av, ArrEq, Vd, Sh -/
import Derived.Test.YtigafnbofmiknaaGreatDoorRows
import Derived.WalkKit
import Derived.WalkSpells
import Derived.WalkLawsBesides
import Derived.Lib.Hide
import Derived.Lib.SmallJoins
import Derived.Lib.UnsafeStr
import Derived.Laws.IdiomStrings
import Derived.Maps.AppendAt
import Derived.ChangeKeysEq
import Derived.Deep.MidRow
namespace Go.Proofs.YtigafnbofmiknaaGreatDoor
set_option maxRecDepth 100000
set_option maxHeartbeats 10000000
open Go.RowKit
section
theorem hQ_ {p : Prop} (h : p) : Hid p := Lib.hid h
theorem aQ {p q : Prop} (h : p) (k : q) : p /\ q := ⟨h, k⟩
theorem gQ {w : World} {o : Obj} : w.grownBy (w.alloc o) none := World.grownBy_alloc w o none
def Blk (w : World) (g : Nat) (t : TypeId) (cs : Array Value) : Prop := w.heap[g]? = some (.cells cs t (0, 0))
section
variable {w w' : World} {g : Nat} {t : TypeId} {cs : Array Value}
theorem Blk.lt (h : Blk w g t cs) : g < w.heap.size := by
 rcases Nat.lt_or_ge g w.heap.size with hlt | hge
 · exact hlt
 · unfold Blk at h; rw [Array.getElem?_eq_none hge] at h; cases h
theorem Blk.cell (h : Blk w g t cs) (i : Nat) : w.cell? ⟨g, i, none⟩ = cs[i]? := Joins.cell_of_block h i
theorem Blk.frozen (h : Blk w g t cs) (i : Nat) : w.frozen? ⟨g, i, none⟩ = false := Joins.unfrozen_of_block h i
theorem Blk.new (w : World) (t : TypeId) (cs : Array Value) : Blk (w.alloc (.cells cs t)) w.heap.size t cs := heap_alloc_new w _
theorem Blk.drew (h : Blk w g t cs) : Blk w.drew g t cs := h
theorem Blk.alloc (h : Blk w g t cs) (o : Obj) : Blk (w.alloc o) g t cs := (Below.heap_alloc w o g h.lt).trans h
theorem Blk.set (h : Blk w g t cs) (i : Nat) (u : Value) : Blk (w.setCell ⟨g, i, none⟩ u) g t (cs.setIfInBounds i u) := Joins.block_setCell h u
theorem Blk.far (h : Blk w g t cs) {p : Addr} (hp : g ≠ p.block) (u : Value) : Blk (w.setCell p u) g t cs := (Below.heap_setCell w p u g hp).trans h
theorem Blk.below {B : Nat} (h : Blk w g t cs) (hb : Below B w w') (hg : g < B) : Blk w' g t cs := (hb.block g hg).trans h
theorem Blk.grown {row : Option Nat} (h : Blk w g t cs) (hb : w.grownBy w' row) (hg : some g ≠ row) : Blk w' g t cs := (hb.block g h.lt hg).trans h
theorem Blk.ne {g' : Nat} {t' : TypeId} {cs' : Array Value} (h : Blk w g t cs) (h' : Blk w g' t' cs') (hne : t ≠ t') : g ≠ g' := by
 rintro rfl
 unfold Blk at h h'
 rw [h] at h'
 injection h' with h'
 injection h' with _ ht
 exact hne ht
end
theorem own_ne {w : World} {base : Nat} {e : TypeId} {size n : Nat} {v : Value} {xs : List Value} {g : Nat} {t : TypeId} {cs : Array Value} (h : w.ownsRow base e size v n xs) (hg : Blk w g t cs) (hne : e ≠ t) : v.ownBlock ≠ some g := by
 rcases h.2 with ⟨rfl, _⟩ | ⟨g', cap, cur, rfl, _, hh, _⟩
 · simp [Value.ownBlock]
 · intro he
   have : g' = g := by simpa [Value.ownBlock] using he
   subst this
   exact Blk.ne (t := e) hh hg hne rfl
theorem zcw {w : World} {base : Nat} {e : TypeId} {size n : Nat} {v : Value} {xs : List Value} {g : Nat} {t : TypeId} {cs : Array Value} (h : w.ownsRow base e size v n xs) (hg : Blk w g t cs) (hne : e ≠ t) (i : Nat) (u : Value) : (w.setCell ⟨g, i, none⟩ u).ownsRow base e size v n xs := by
 have hn := own_ne h hg hne
 obtain ⟨h1, h2⟩ := h
 refine ⟨h1, ?_⟩
 rcases h2 with h2 | ⟨g', cap, cur, hv, hb, hh, r⟩
 · exact .inl h2
 · refine .inr ⟨g', cap, cur, hv, hb, ?_, r⟩
   rw [Below.heap_setCell _ _ _ _ (by rintro rfl; exact hn (by rw [hv]; rfl))]
   exact hh
def zt (w : World) (A : Option Addr) (l : List UInt8) : Prop :=
 l ≠ [] -> ∃ ad, A = some ad /\ ∀ j (h : j < l.length), w.cell? (ad.add j) = some (.int .u8 l[j].toNat)
theorem yk (a : Addr) (n : Nat) : (a.add n).block = a.block := by unfold Addr.add; split <;> rfl
section
variable {w w' : World} {A : Option Addr} {l : List UInt8}
theorem zt.nil (w : World) (A : Option Addr) : zt w A [] := fun h => absurd rfl h
theorem zt.one (w : World) {x : Value} {b : UInt8} {t : TypeId} (h : x = .int .u8 b.toNat) : zt (w.alloc (.cells #[x] t)) (some ⟨w.heap.size, 0, none⟩) [b] := fun _ => by
 subst h
 refine ⟨_, rfl, fun j hj => ?_⟩
 have h0 : j = 0 := by simpa using hj
 subst h0
 exact (Blk.new w t #[.int .u8 (b.toNat : Nat)]).cell 0
theorem zt.keep (h : zt w A l) (hk : ∀ ad : Addr, A = some ad -> w.cell? (ad.add 0) ≠ none -> ∀ i, w'.cell? (ad.add i) = w.cell? (ad.add i)) : zt w' A l := fun hl => by
 obtain ⟨ad, rfl, hc⟩ := h hl
 refine ⟨ad, rfl, fun j hj => ?_⟩
 have h0 : 0 < l.length := by omega
 rw [hk ad rfl (by rw [hc 0 h0]; simp) j, hc j hj]
theorem zt.below {B : Nat} (h : zt w A l) (hb : Below B w w') (hA : ∀ ad, A = some ad -> ad.block < B) : zt w' A l :=
 h.keep fun ad e _ i => hb.cell (by rw [yk]; exact hA ad e)
theorem zt.grown {row : Option Nat} (h : zt w A l) (hb : w.grownBy w' row) (hA : ∀ ad, A = some ad -> some ad.block ≠ row) : zt w' A l :=
 h.keep fun ad e h0 i => World.cell?_of_block (hb.block _ (by
  rw [yk]
  obtain ⟨v, hv⟩ := Option.ne_none_iff_exists'.1 h0
  have := World.block_lt_of_cell? w _ hv
  rwa [yk] at this) (by rw [yk]; exact hA ad e))
theorem zt.alloc (h : zt w A l) (o : Obj) : zt (w.alloc o) A l := h.grown (World.grownBy_alloc w o none) (fun _ _ => by simp)
end
theorem grown_set {w : World} (g : Nat) {i : Nat} (u : Value) : w.grownBy (w.drew.setCell ⟨g, i, none⟩ u) (some g) :=
 ⟨rfl, rfl, rfl, by simp [World.setCell], fun k _ hne => (Below.heap_setCell w.drew ⟨g, i, none⟩ u k (fun e => hne (by rw [e])))⟩
theorem grown_alloc {w w' : World} {o : Obj} {row : Option Nat} (hg : (w.alloc o).grownBy w' row) (hr : ∀ g, row = some g -> w.heap.size <= g) : w.grownBy w' none :=
 ⟨hg.os, hg.tape, hg.output, Nat.le_trans (by simp) hg.size, fun k hk _ => (hg.block k (by simp; omega) (by intro e; have := hr k e.symm; omega)).trans (Below.heap_alloc w o k hk)⟩
theorem grown_new {w w' : World} {o : Obj} {n c : Nat} (hg : (w.alloc o).grownBy w' (Value.slice (some ⟨w.heap.size, 0, none⟩) n c).ownBlock) : w.grownBy w' none :=
 grown_alloc hg (by intro g h; simp [Value.ownBlock] at h; omega)
theorem za {a b c : World} {row : Option Nat} (h : a.grownBy b row) (k : b.grownBy c row) : a.grownBy c row :=
 ⟨k.os.trans h.os, k.tape.trans h.tape, k.output.trans h.output, Nat.le_trans h.size k.size, fun i hi hne => (k.block i (Nat.lt_of_lt_of_le hi h.size) hne).trans (h.block i hi hne)⟩
theorem vq {a b : World} (h : a.grownBy b none) (row : Option Nat) : a.grownBy b row :=
 ⟨h.os, h.tape, h.output, h.size, fun i hi _ => h.block i hi (by simp)⟩
theorem zh {a b : World} {row : Option Nat} (h : a.grownBy b row) : a.grownBy b.drew row := ⟨h.os, h.tape, h.output, h.size, h.block⟩
theorem ua {w w' : World} {B : Nat} {row : Option Nat} (h : w.grownBy w' row) (hB : B <= w.heap.size) (hr : ∀ g, row = some g -> B <= g) : Below B w w' :=
 (Below.refl B w).grown h hB hr
/-! ### Which blocks may turn -/
structure Kept (F : Nat -> Prop) (w w' : World) : Prop where
 os : w'.os = w.os
 tape : w'.tape = w.tape
 output : w'.output = w.output
 size : w.heap.size <= w'.heap.size
 block : ∀ k, k < w.heap.size -> ¬ F k -> w'.heap[k]? = w.heap[k]?
def upTo (F : Nat -> Prop) (a b : Nat) : Nat -> Prop := fun k => F k \/ (a <= k /\ k < b)
section
variable {F G : Nat -> Prop} {w w' w'' : World}
theorem Kept.refl (F : Nat -> Prop) (w : World) : Kept F w w := ⟨rfl, rfl, rfl, Nat.le_refl _, fun _ _ _ => rfl⟩
theorem Kept.trans (h : Kept F w w') (k : Kept (upTo F w.heap.size w'.heap.size) w' w'') : Kept F w w'' :=
 ⟨k.os.trans h.os, k.tape.trans h.tape, k.output.trans h.output, Nat.le_trans h.size k.size, fun i hi hn =>
  (k.block i (Nat.lt_of_lt_of_le hi h.size) (by rintro (hf | ⟨hf, _⟩); exact hn hf; omega)).trans (h.block i hi hn)⟩
theorem Kept.mono (h : Kept F w w') (hF : ∀ k, k < w.heap.size -> F k -> G k) : Kept G w w' :=
 ⟨h.os, h.tape, h.output, h.size, fun i hi hn => h.block i hi fun hf => hn (hF i hi hf)⟩
theorem Kept.of_grown {row : Option Nat} (h : w.grownBy w' row) (hr : ∀ g, row = some g -> F g) : Kept F w w' :=
 ⟨h.os, h.tape, h.output, h.size, fun i hi hn => h.block i hi (by intro e; exact hn (hr i e.symm))⟩
theorem Kept.alloc (h : Kept F w w') (o : Obj) : Kept F w (w'.alloc o) :=
 ⟨h.os, h.tape, h.output, Nat.le_trans h.size (by simp), fun i hi hn => (Below.heap_alloc w' o i (Nat.lt_of_lt_of_le hi h.size)).trans (h.block i hi hn)⟩
theorem Kept.drew (h : Kept F w w') : Kept F w w'.drew := ⟨h.os, h.tape, h.output, h.size, h.block⟩
theorem Kept.set (h : Kept F w w') {p : Addr} (hp : F p.block \/ w.heap.size <= p.block) (u : Value) : Kept F w (w'.setCell p u) :=
 ⟨h.os, h.tape, h.output, by simpa [World.setCell] using h.size, fun i hi hn => (Below.heap_setCell w' p u i (by
  rintro rfl
  rcases hp with hp | hp
  · exact hn hp
  · omega)).trans (h.block i hi hn)⟩
theorem Kept.below {B : Nat} (h : Kept F w w') (hB : B <= w.heap.size) (hF : ∀ k, F k -> B <= k) : Below B w w' :=
 ⟨h.os, h.tape, h.output, h.size, fun k hk => h.block k (by omega) fun hf => by have := hF k hf; omega⟩
theorem Kept.grownNone (h : Kept F w w') (hF : ∀ k, k < w.heap.size -> ¬ F k) : w.grownBy w' none :=
 ⟨h.os, h.tape, h.output, h.size, fun k hk _ => h.block k hk (hF k hk)⟩
theorem Kept.cell (h : Kept F w w') {a : Addr} {v : Value} (hv : w.cell? a = some v) (hn : ¬ F a.block) : w'.cell? a = some v :=
 (World.cell?_of_block (h.block a.block (World.block_lt_of_cell? w a hv) hn)).trans hv
theorem Blk.kept {g : Nat} {t : TypeId} {cs : Array Value} (h : Blk w g t cs) (hk : Kept F w w') (hn : ¬ F g) : Blk w' g t cs := (hk.block g h.lt hn).trans h
theorem zt.kept {A : Option Addr} {l : List UInt8} (h : zt w A l) (hk : Kept F w w') (hA : ∀ ad, A = some ad -> ¬ F ad.block) : zt w' A l :=
 h.keep fun ad e h0 i => World.cell?_of_block (hk.block _ (by
  rw [yk]
  obtain ⟨v, hv⟩ := Option.ne_none_iff_exists'.1 h0
  have := World.block_lt_of_cell? w _ hv
  rwa [yk] at this) (by rw [yk]; exact hA ad e))
theorem zt.kept' {A : Option Addr} {l : List UInt8} (h : zt w A l) (hk : Kept F w w') (hA : ∀ ad, A = some ad -> l ≠ [] -> ¬ F ad.block) : zt w' A l := fun hl =>
 h.kept hk (fun ad e => hA ad e hl) hl
theorem zez {a b c : Nat} (h1 : a <= b) (h2 : b <= c) : ∀ k, upTo (upTo F a b) b c k -> upTo F a c k := by
 rintro k ((hf | ⟨h3, h4⟩) | ⟨h3, h4⟩)
 · exact .inl hf
 · exact .inr ⟨h3, by omega⟩
 · exact .inr ⟨by omega, h4⟩
theorem upTo_alloc {a b c : Nat} (h1 : a <= b) (h2 : b + 1 <= c) : ∀ k, upTo (upTo F a b) (b + 1) c k -> upTo F a c k := by
 rintro k ((hf | ⟨h3, h4⟩) | ⟨h3, h4⟩)
 · exact .inl hf
 · exact .inr ⟨h3, by omega⟩
 · exact .inr ⟨by omega, h4⟩
theorem upTo_more {a b : Nat} (_ : a <= b) : ∀ k, upTo F a b k -> upTo F a (b + 1) k := by
 rintro k (hf | ⟨h3, h4⟩)
 · exact .inl hf
 · exact .inr ⟨h3, by omega⟩
theorem zee {base : Nat} {e : TypeId} {size n : Nat} {v : Value} {xs : List Value} (h : w.ownsRow base e size v n xs) (hk : Kept F w w') (hn : ∀ k, v.ownBlock = some k -> ¬ F k) : w'.ownsRow base e size v n xs := by
 obtain ⟨h1, h2⟩ := h
 refine ⟨h1, ?_⟩
 rcases h2 with h2 | ⟨g', cap, cur, hv, hb, hh, r⟩
 · exact .inl h2
 · exact .inr ⟨g', cap, cur, hv, hb, (hk.block g' (Array.getElem?_eq_some_iff.1 hh).1 (hn g' (by rw [hv]; rfl))).trans hh, r⟩
end
theorem zca {B : Nat} {a w : World} (h : Below B a w) (n : Nat) : Below B a (w.drewN n) := ⟨h.os, h.tape, h.output, h.size, h.block⟩
/-! ### append of bytes that lie anywhere (nil and empty sources too) onto a row of the call's own -/
section
variable {P : Program} (w : World)
theorem run_append_nilsrc (base : Nat) (t ty e : TypeId) (i : TypeInfo) (size : Nat) (ht : P.underlying t = some (.slice e)) (hi : P.info? e = some i)
    (v : Value) (n : Nat) (xs : List Value) (hown : w.ownsRow base e size v n xs) (c : Nat) : (Builtin.append_ #[t, t] ty #[v, .slice none 0 c]).run P w = .ok v w := by
 rcases hown.2 with ⟨rfl, rfl⟩ | ⟨g, cap, cur, rfl, _, _, hnc, _⟩
 · simp [Builtin.append_, run_underlying ht, sizeOf, typeInfo, hi, Builtin.lenOf, Builtin.firstCells]
 · simp [Builtin.append_, run_underlying ht, sizeOf, typeInfo, hi, Builtin.lenOf, Builtin.firstCells, hnc, storeCells]
theorem zch {base : Nat} {e : TypeId} {size n : Nat} {v : Value} {xs : List Value} (h : w.ownsRow base e size v n xs) : ∃ A cap, v = .slice A n cap := by
 rcases h.2 with ⟨rfl, rfl⟩ | ⟨g, cap, cur, rfl, _⟩
 · exact ⟨none, 0, rfl⟩
 · exact ⟨_, cap, rfl⟩
theorem byteCells_get {l : List UInt8} {j : Nat} {u : Value} (h : (Lib.byteCells l)[j]? = some u) : ∃ hj : j < l.length, u = .int .u8 l[j].toNat := by
 have hj : j < l.length := by
  have := (List.getElem?_eq_some_iff.1 h).1
  simpa [Lib.byteCells] using this
 refine ⟨hj, ?_⟩
 simp [Lib.byteCells, List.getElem?_eq_getElem hj] at h
 exact h.symm
theorem run_append_bytes (base : Nat) (t ty e : TypeId) (i : TypeInfo) (z : Value) (ht : P.underlying t = some (.slice e)) (hi : P.info? e = some i) (hz : i.zero = some z)
    (hsize : i.size = 1) (hby : i.bytes = 1) (hzs : z.cells.size = 1)
    (v : Value) (n : Nat) (xs : List Value) (hown : w.ownsRow base e 1 v n xs)
    (A : Option Addr) (c : Nat) (l : List UInt8) (hr : zt w A l) (h63 : n + l.length <= 140737488355328) (hbase : base <= w.heap.size) :
    ∃ A' cap' w', (Builtin.append_ #[t, t] ty #[v, .slice A l.length c]).run P w = .ok (.slice A' (n + l.length) cap') w' /\ w'.ownsRow base e 1 (.slice A' (n + l.length) cap') (n + l.length) (xs ++ Lib.byteCells l) /\ w.grownBy w' v.ownBlock /\
     ((Value.slice A' (n + l.length) cap').ownBlock = v.ownBlock \/ (Value.slice A' (n + l.length) cap').ownBlock = some w.heap.size) := by
 have key : ∃ v' w', (Builtin.append_ #[t, t] ty #[v, .slice A l.length c]).run P w = .ok v' w' /\ w'.ownsRow base e 1 v' (n + l.length) (xs ++ Lib.byteCells l) /\ w.grownBy w' v.ownBlock /\ (v'.ownBlock = v.ownBlock \/ v'.ownBlock = some w.heap.size) := by
  rcases A with _ | ad
  · have hl : l = [] := by
      rcases l with _ | ⟨x, r⟩
      · rfl
      · obtain ⟨ad, h, _⟩ := hr (by simp)
        cases h
    subst hl
    exact ⟨v, w, run_append_nilsrc w base t ty e i 1 ht hi v n xs hown c, by simpa [Lib.byteCells] using hown, World.grownBy.refl w _, .inl rfl⟩
  · have hcells : ∀ j u, (Lib.byteCells l)[j]? = some u -> w.cell? (ad.add j) = some u := by
      intro j u hu
      obtain ⟨hj, rfl⟩ := byteCells_get hu
      obtain ⟨ad', h, hc⟩ := hr (by intro e; subst e; simp at hj)
      injection h with h
      subst h
      exact hc j hj
    obtain ⟨v', w', hrun, h2, h3, _, h5⟩ := run_append_own_at (P := P) w base t ty e i z 1 1 ht hi hz hsize hby hzs (by omega) v n xs hown ad l.length c (Lib.byteCells l) (by simp [Lib.byteCells]) hcells (by intro u hu; simp [Lib.byteCells] at hu; obtain ⟨b, _, rfl⟩ := hu; rfl) (by unfold maxLen; omega) (by omega) hbase
    exact ⟨v', w', hrun, h2, h3, h5⟩
 obtain ⟨v', w', h1, h2, h3, h4⟩ := key
 obtain ⟨A', cap', rfl⟩ := zch w' h2
 exact ⟨A', cap', w', h1, h2, h3, h4⟩
theorem wp_append_bytes {o : Oper} {a : Act} {K : Act -> World -> Prop} {Q : Exit -> Act -> World -> Prop} (s x : Operand) (t : TypeId)
    (ho : o.op = .call { callee := .builtin .append, args := #[s, x], argTypes := #[t, t] })
    (base : Nat) (e : TypeId) (i : TypeInfo) (z : Value) (ht : P.underlying t = some (.slice e)) (hi : P.info? e = some i) (hz : i.zero = some z)
    (hsize : i.size = 1) (hby : i.bytes = 1) (hzs : z.cells.size = 1)
    (v : Value) (n : Nat) (xs : List Value) (hs : a.eval s = v) (hown : w.ownsRow base e 1 v n xs)
    (A : Option Addr) (c : Nat) (l : List UInt8) (hx : a.eval x = .slice A l.length c) (hr : zt w A l) (h63 : n + l.length <= 140737488355328) (hbase : base <= w.heap.size)
    (h : ∀ A' cap' w', w'.ownsRow base e 1 (.slice A' (n + l.length) cap') (n + l.length) (xs ++ Lib.byteCells l) -> w.grownBy w' v.ownBlock -> ((Value.slice A' (n + l.length) cap').ownBlock = v.ownBlock \/ (Value.slice A' (n + l.length) cap').ownBlock = some w.heap.size) -> K (a.put o.dst (.slice A' (n + l.length) cap')) w') : o.wp P a w K Q := by
 obtain ⟨A', cap', w', hrun, h2, h3, h4⟩ := run_append_bytes (P := P) w base t o.type e i z ht hi hz hsize hby hzs v n xs hown A c l hr h63 hbase
 unfold Oper.wp execOp
 simp only [ho, resolve, invoke, builtin, Sem.run_bind, Sem.run_pure, Result.andThen_ok, List.map_toArray, List.map_cons, List.map_nil, hs, hx, hrun]
 exact h A' cap' w' h2 h3 h4
theorem uk {ops : Array Oper} {rest : List Oper} {o : Oper} {a : Act} {Q : Exit -> Act -> World -> Prop} (hgd : o.guard = none) (s x : Operand) (t : TypeId)
    (ho : o.op = .call { callee := .builtin .append, args := #[s, x], argTypes := #[t, t] })
    (base : Nat) (e : TypeId) (i : TypeInfo) (z : Value) (ht : P.underlying t = some (.slice e)) (hi : P.info? e = some i) (hz : i.zero = some z)
    (hsize : i.size = 1) (hby : i.bytes = 1) (hzs : z.cells.size = 1)
    (v : Value) (n : Nat) (xs : List Value) (hs : a.eval s = v) (hown : w.ownsRow base e 1 v n xs)
    (A : Option Addr) (c : Nat) (l : List UInt8) (hx : a.eval x = .slice A l.length c) (hr : zt w A l) (h63 : n + l.length <= 140737488355328) (hbase : base <= w.heap.size)
    (h : ∀ A' cap' w', w'.ownsRow base e 1 (.slice A' (n + l.length) cap') (n + l.length) (xs ++ Lib.byteCells l) -> w.grownBy w' v.ownBlock -> ((Value.slice A' (n + l.length) cap').ownBlock = v.ownBlock \/ (Value.slice A' (n + l.length) cap').ownBlock = some w.heap.size) -> wpList P ops Q rest (a.put o.dst (.slice A' (n + l.length) cap')) w') : wpList P ops Q (o :: rest) a w :=
 wpList_plain hgd fun _ hK => wp_append_bytes w s x t ho base e i z ht hi hz hsize hby hzs v n xs hs hown A c l hx hr h63 hbase fun A' cap' w' h2 h3 h4 => hK _ _ (h A' cap' w' h2 h3 h4)
end
end
section
theorem w64 (n : Int) (h : -9223372036854775808 <= n /\ n <= 9223372036854775807) : wrap64 n = n := by unfold wrap64; omega
/-! ## Arrays as lists -/
abbrev arrV (q : IntKind) (l : List Int) : Array Value := (l.map (Value.int q)).toArray
theorem yr {q : IntKind} {l : List Int} {k : Nat} (h : k < l.length) : (arrV q l)[k]? = some (.int q (l.getD k 0)) := by
 simp [arrV, List.getElem?_map, List.getElem?_eq_getElem h]
theorem zcb {q : IntKind} {l : List Int} {k : Nat} (x : Int) : (arrV q l).setIfInBounds k (.int q x) = arrV q (l.set k x) := by
 simp [arrV, List.map_set]
theorem arr_push {q : IntKind} {W : List Int} {n : Nat} (x : Int) (h : W.length < n) : (arrV q (W ++ List.replicate (n - W.length) 0)).setIfInBounds W.length (.int q x) = arrV q (W ++ [x] ++ List.replicate (n - (W.length + 1)) 0) := by
 rw [zcb]
 congr 1
 obtain ⟨m, hm⟩ : ∃ m, n - W.length = m + 1 := ⟨n - W.length - 1, by omega⟩
 rw [hm, show n - (W.length + 1) = m by omega, List.replicate_succ]
 simp
theorem zf {q : IntKind} {l : List Int} : (arrV q l).size = l.length := by simp [arrV]
theorem z64 : arrV .u32 (List.replicate 64 0) = #[.int .u32 0, .int .u32 0, .int .u32 0, .int .u32 0, .int .u32 0, .int .u32 0, .int .u32 0, .int .u32 0, .int .u32 0, .int .u32 0, .int .u32 0, .int .u32 0, .int .u32 0, .int .u32 0, .int .u32 0, .int .u32 0, .int .u32 0, .int .u32 0, .int .u32 0, .int .u32 0, .int .u32 0, .int .u32 0, .int .u32 0, .int .u32 0, .int .u32 0, .int .u32 0, .int .u32 0, .int .u32 0, .int .u32 0, .int .u32 0, .int .u32 0, .int .u32 0, .int .u32 0, .int .u32 0, .int .u32 0, .int .u32 0, .int .u32 0, .int .u32 0, .int .u32 0, .int .u32 0, .int .u32 0, .int .u32 0, .int .u32 0, .int .u32 0, .int .u32 0, .int .u32 0, .int .u32 0, .int .u32 0, .int .u32 0, .int .u32 0, .int .u32 0, .int .u32 0, .int .u32 0, .int .u32 0, .int .u32 0, .int .u32 0, .int .u32 0, .int .u32 0, .int .u32 0, .int .u32 0, .int .u32 0, .int .u32 0, .int .u32 0, .int .u32 0] := by kernel_rfl
theorem z64b : arrV .u8 (List.replicate 64 0) = #[.int .u8 0, .int .u8 0, .int .u8 0, .int .u8 0, .int .u8 0, .int .u8 0, .int .u8 0, .int .u8 0, .int .u8 0, .int .u8 0, .int .u8 0, .int .u8 0, .int .u8 0, .int .u8 0, .int .u8 0, .int .u8 0, .int .u8 0, .int .u8 0, .int .u8 0, .int .u8 0, .int .u8 0, .int .u8 0, .int .u8 0, .int .u8 0, .int .u8 0, .int .u8 0, .int .u8 0, .int .u8 0, .int .u8 0, .int .u8 0, .int .u8 0, .int .u8 0, .int .u8 0, .int .u8 0, .int .u8 0, .int .u8 0, .int .u8 0, .int .u8 0, .int .u8 0, .int .u8 0, .int .u8 0, .int .u8 0, .int .u8 0, .int .u8 0, .int .u8 0, .int .u8 0, .int .u8 0, .int .u8 0, .int .u8 0, .int .u8 0, .int .u8 0, .int .u8 0, .int .u8 0, .int .u8 0, .int .u8 0, .int .u8 0, .int .u8 0, .int .u8 0, .int .u8 0, .int .u8 0, .int .u8 0, .int .u8 0, .int .u8 0, .int .u8 0] := by kernel_rfl
theorem z32b : arrV .u8 (List.replicate 32 0) = #[.int .u8 0, .int .u8 0, .int .u8 0, .int .u8 0, .int .u8 0, .int .u8 0, .int .u8 0, .int .u8 0, .int .u8 0, .int .u8 0, .int .u8 0, .int .u8 0, .int .u8 0, .int .u8 0, .int .u8 0, .int .u8 0, .int .u8 0, .int .u8 0, .int .u8 0, .int .u8 0, .int .u8 0, .int .u8 0, .int .u8 0, .int .u8 0, .int .u8 0, .int .u8 0, .int .u8 0, .int .u8 0, .int .u8 0, .int .u8 0, .int .u8 0, .int .u8 0] := by kernel_rfl
theorem ye {w w1 : World} {row : Option Nat} (h : w.grownBy w1 row) {p : Addr} (hp : w.heap.size <= p.block \/ row = some p.block) (u : Value) : w.grownBy (w1.setCell p u) row :=
 ⟨h.os, h.tape, h.output, by simpa using h.size, fun k hk hne => (Below.heap_setCell w1 p u k (fun e => hp.elim (fun hp => by omega) (fun hp => hne (by rw [e]; exact hp.symm)))).trans (h.block k hk hne)⟩
theorem Blk.row {w : World} {g : Nat} {t : TypeId} {old : Array Value} (h : Blk w g t old) (cs : Array Value) : Blk (w.setRow g cs) g t cs := setRow_heap w g old cs t (0, 0) h
theorem Blk.farRow {w : World} {g g' : Nat} {t : TypeId} {cs : Array Value} (h : Blk w g t cs) (hne : g ≠ g') (cs' : Array Value) : Blk (w.setRow g' cs') g t cs := (setRow_other w g' g cs' hne).trans h
theorem zc {w w1 : World} {row : Option Nat} (h : w.grownBy w1 row) {g : Nat} (hp : w.heap.size <= g \/ row = some g) (cs : Array Value) : w.grownBy (w1.setRow g cs) row :=
 ⟨(setRow_os w1 g cs).trans h.os, (setRow_tape w1 g cs).trans h.tape, (setRow_output w1 g cs).trans h.output, by rw [setRow_size]; exact h.size, fun k hk hne => (setRow_other w1 g k cs (fun e => hp.elim (fun hp => by omega) (fun hp => hne (by rw [e]; exact hp.symm)))).trans (h.block k hk hne)⟩
theorem z5 {fn : Func} {s : Tmp} {t : TypeId} (h : fn.results = #[.cell s t]) (tmps : Array Value) (P : Program) (w : World) (p : Addr) (v : Value)
    (hp : tmps.getD s undef = .pointer (some p)) (hl : (loadVar t p).run P w = .ok v w) : (results fn tmps).run P w = .ok v w := by
 have hq : tmps[s]?.getD undef = .pointer (some p) := by simpa using hp
 simp [results, h, hq, asAddr, hl]
section
variable {P : Program}
theorem uu {w : World} {t e : TypeId} {n : Nat} {i : Int} {cs : Array Value} {v : Value} (h : P.underlying t = some (.array n e)) (he : P.plainKey e = true) (hs : (P.info? e).map (·.size) = some 1) (hb : 0 <= i /\ i < (n : Int)) (hv : cs[i.toNat]? = some v) :
    Sem.run P (Instr.index t (.agg cs) (.int .i64 i)) w = .ok v w := by
 have hp := run_part_plain (w := w) he hv
 cases hq : P.info? e with
 | none => simp [hq] at hs
 | some ei =>
  have hi : ei.size = 1 := by simpa [hq] using hs
  simp [Instr.index, run_underlying h, asIntOf, hb, sizeOf, typeInfo, hq, hi, hp]
end
theorem z8 {a b c : World} {row : Option Nat} {ge : Nat} (h : a.grownBy b row) (k : b.grownBy c (some ge)) (hge : a.heap.size <= ge) : a.grownBy c row :=
 ⟨k.os.trans h.os, k.tape.trans h.tape, k.output.trans h.output, Nat.le_trans h.size k.size, fun i hi hne => (k.block i (Nat.lt_of_lt_of_le hi h.size) (by intro e; have := Option.some.inj e; omega)).trans (h.block i hi hne)⟩
end
section
section
variable {P : Program}
theorem eqItems_ints (w : World) (d : Nat) {e : TypeId} {q : IntKind} (he : P.plainKey e = true) (hu : P.underlying e = some (.int q)) (l1 l2 : List Int) : ∀ (is : List Nat), (∀ i ∈ is, i < l1.length /\ i < l2.length) ->
    Sem.run P (Op.eqItems (d + 1) e 1 (arrV q l1) (arrV q l2) is) w = .ok (is.all fun i => l1.getD i 0 == l2.getD i 0) w
 | [], _ => by simp [Op.eqItems]
 | i :: is, h => by
  obtain ⟨h1, h2⟩ := h i (by simp)
  have p1 := run_part_plain (w := w) he (yr (q := q) h1)
  have p2 := run_part_plain (w := w) he (yr (q := q) h2)
  have p3 := run_equalIn_int w d e q q (l1.getD i 0) (l2.getD i 0) hu
  have ih := eqItems_ints w d he hu l1 l2 is (fun j hj => h j (by simp [hj]))
  simp only [Op.eqItems, Sem.run_bind, Nat.mul_one, p1, p2, p3, Result.andThen_ok]
  cases hb : (l1.getD i 0 == l2.getD i 0) <;> simp_all
theorem eq_arr (w : World) (d : Nat) {t e : TypeId} {n : Nat} {q : IntKind} (ht : P.underlying t = some (.array n e)) (he : P.plainKey e = true) (hu : P.underlying e = some (.int q)) (hce : P.cellsOf e = 1) (hi : (P.info? e).isSome = true) (l1 l2 : List Int) (h1 : l1.length = n) (h2 : l2.length = n) :
    Sem.run P (Op.equalIn (d + 2) t (.agg (arrV q l1)) (.agg (arrV q l2))) w = .ok (decide (l1 = l2)) w := by
 obtain ⟨i, hi⟩ := Option.isSome_iff_exists.1 hi
 rw [run_equalIn_array w (d + 1) _ _ ht hi, hce, eqItems_ints w d he hu l1 l2 _ (fun j hj => by rw [h1, h2]; simpa using hj)]
 congr 1
 rw [Bool.eq_iff_iff, List.all_eq_true, decide_eq_true_iff]
 constructor
 · intro h
   apply List.ext_getElem (by rw [h1, h2])
   intro j hj1 hj2
   have := h j (by rw [List.mem_range]; omega)
   simpa [List.getD, List.getElem?_eq_getElem hj1, List.getElem?_eq_getElem hj2] using this
 · rintro rfl j _
   simp
end
end
section
structure Vd where
 key : List Int
 p : Int
def Vd.cells (x : Vd) : List Value := x.key.map (Value.int .u8) ++ [.int .i64 x.p]
abbrev Vd.val (x : Vd) : Value := .agg x.cells.toArray
def VdsAt (w : World) (A : Option Addr) (V : List Vd) : Prop := V ≠ [] -> ∃ b off, A = some ⟨b, off, none⟩ /\ ∀ k (h : k < V.length), w.rangeAt b (off + k * 17) V[k].cells
theorem ze {w w' : World} {b o : Nat} {cs : List Value} (h : w.rangeAt b o cs) (hk : w.grownBy w' none) : w'.rangeAt b o cs := fun j v hv => hk.cell (h j v hv) (by simp)
theorem VdsAt.grown {w w' : World} {A : Option Addr} {V : List Vd} (h : VdsAt w A V) (hk : w.grownBy w' none) : VdsAt w' A V := fun hne => by
 obtain ⟨b, off, rfl, hc⟩ := h hne
 exact ⟨b, off, rfl, fun k hk' => ze (hc k hk') hk⟩
theorem Vd.cells_length {x : Vd} (h : x.key.length = 16) : x.cells.length = 17 := by simp [Vd.cells, h]
end
section
/-! ## Words -/
def rr (p q x : Int) : Int := bits BinOp.or IntKind.u32 (x * p % 4294967296) (x / q)
def wordF (b0 b1 b2 b3 : Int) : Int :=
 bits BinOp.or IntKind.u32 (bits BinOp.or IntKind.u32 (bits BinOp.or IntKind.u32 (b0 % 4294967296 * 16777216 % 4294967296) (b1 % 4294967296 * 65536 % 4294967296)) (b2 % 4294967296 * 256 % 4294967296)) (b3 % 4294967296)
def xr (a b : Int) : Int := bits BinOp.xor IntKind.u32 a b
def an (a b : Int) : Int := bits BinOp.and IntKind.u32 a b
theorem rot2 (w : World) (x : Int) : Calls Tryz.prog 116 #[.int .u32 x, .int .i64 (-2)] w fun e w' => e = .returned (.int .u32 (rr 1073741824 4 x)) /\ w = w' := by
 have c1 : bits BinOp.and IntKind.u64 (IntKind.u64.wrap (-2)) 31 = 30 := by kernel_rfl
 go_enter Tryz.func116, Tryz.ntmps116
 go_wp2
 all_goals (go_ret; exact ⟨rfl, rfl⟩)
theorem rot6 (w : World) (x : Int) : Calls Tryz.prog 116 #[.int .u32 x, .int .i64 (-6)] w fun e w' => e = .returned (.int .u32 (rr 67108864 64 x)) /\ w = w' := by
 have c1 : bits BinOp.and IntKind.u64 (IntKind.u64.wrap (-6)) 31 = 26 := by kernel_rfl
 go_enter Tryz.func116, Tryz.ntmps116
 go_wp2
 all_goals (go_ret; exact ⟨rfl, rfl⟩)
theorem rot7 (w : World) (x : Int) : Calls Tryz.prog 116 #[.int .u32 x, .int .i64 (-7)] w fun e w' => e = .returned (.int .u32 (rr 33554432 128 x)) /\ w = w' := by
 have c1 : bits BinOp.and IntKind.u64 (IntKind.u64.wrap (-7)) 31 = 25 := by kernel_rfl
 go_enter Tryz.func116, Tryz.ntmps116
 go_wp2
 all_goals (go_ret; exact ⟨rfl, rfl⟩)
theorem rot11 (w : World) (x : Int) : Calls Tryz.prog 116 #[.int .u32 x, .int .i64 (-11)] w fun e w' => e = .returned (.int .u32 (rr 2097152 2048 x)) /\ w = w' := by
 have c1 : bits BinOp.and IntKind.u64 (IntKind.u64.wrap (-11)) 31 = 21 := by kernel_rfl
 go_enter Tryz.func116, Tryz.ntmps116
 go_wp2
 all_goals (go_ret; exact ⟨rfl, rfl⟩)
theorem rot13 (w : World) (x : Int) : Calls Tryz.prog 116 #[.int .u32 x, .int .i64 (-13)] w fun e w' => e = .returned (.int .u32 (rr 524288 8192 x)) /\ w = w' := by
 have c1 : bits BinOp.and IntKind.u64 (IntKind.u64.wrap (-13)) 31 = 19 := by kernel_rfl
 go_enter Tryz.func116, Tryz.ntmps116
 go_wp2
 all_goals (go_ret; exact ⟨rfl, rfl⟩)
theorem rot17 (w : World) (x : Int) : Calls Tryz.prog 116 #[.int .u32 x, .int .i64 (-17)] w fun e w' => e = .returned (.int .u32 (rr 32768 131072 x)) /\ w = w' := by
 have c1 : bits BinOp.and IntKind.u64 (IntKind.u64.wrap (-17)) 31 = 15 := by kernel_rfl
 go_enter Tryz.func116, Tryz.ntmps116
 go_wp2
 all_goals (go_ret; exact ⟨rfl, rfl⟩)
theorem rot18 (w : World) (x : Int) : Calls Tryz.prog 116 #[.int .u32 x, .int .i64 (-18)] w fun e w' => e = .returned (.int .u32 (rr 16384 262144 x)) /\ w = w' := by
 have c1 : bits BinOp.and IntKind.u64 (IntKind.u64.wrap (-18)) 31 = 14 := by kernel_rfl
 go_enter Tryz.func116, Tryz.ntmps116
 go_wp2
 all_goals (go_ret; exact ⟨rfl, rfl⟩)
theorem rot19 (w : World) (x : Int) : Calls Tryz.prog 116 #[.int .u32 x, .int .i64 (-19)] w fun e w' => e = .returned (.int .u32 (rr 8192 524288 x)) /\ w = w' := by
 have c1 : bits BinOp.and IntKind.u64 (IntKind.u64.wrap (-19)) 31 = 13 := by kernel_rfl
 go_enter Tryz.func116, Tryz.ntmps116
 go_wp2
 all_goals (go_ret; exact ⟨rfl, rfl⟩)
theorem rot22 (w : World) (x : Int) : Calls Tryz.prog 116 #[.int .u32 x, .int .i64 (-22)] w fun e w' => e = .returned (.int .u32 (rr 1024 4194304 x)) /\ w = w' := by
 have c1 : bits BinOp.and IntKind.u64 (IntKind.u64.wrap (-22)) 31 = 10 := by kernel_rfl
 go_enter Tryz.func116, Tryz.ntmps116
 go_wp2
 all_goals (go_ret; exact ⟨rfl, rfl⟩)
theorem rot25 (w : World) (x : Int) : Calls Tryz.prog 116 #[.int .u32 x, .int .i64 (-25)] w fun e w' => e = .returned (.int .u32 (rr 128 33554432 x)) /\ w = w' := by
 have c1 : bits BinOp.and IntKind.u64 (IntKind.u64.wrap (-25)) 31 = 7 := by kernel_rfl
 go_enter Tryz.func116, Tryz.ntmps116
 go_wp2
 all_goals (go_ret; exact ⟨rfl, rfl⟩)
def s0S (x : Int) : Int := xr (xr (rr 33554432 128 x) (rr 16384 262144 x)) (x / 8)
def s1S (x : Int) : Int := xr (xr (rr 32768 131072 x) (rr 8192 524288 x)) (x / 1024)
def nextS (a x c y : Int) : Int := (a + s0S x + c + s1S y) % 4294967296
def wordS (b : List Int) (W : List Int) (k : Nat) : Int :=
 if k < 16 then wordF (b.getD (4 * k) 0) (b.getD (4 * k + 1) 0) (b.getD (4 * k + 2) 0) (b.getD (4 * k + 3) 0)
 else nextS (W.getD (k - 16) 0) (W.getD (k - 15) 0) (W.getD (k - 7) 0) (W.getD (k - 2) 0)
def schS (b : List Int) : Nat -> List Int
 | 0 => []
 | k + 1 => schS b k ++ [wordS b (schS b k) k]
theorem y6 (b : List Int) (k : Nat) : (schS b k).length = k := by
 induction k with
 | zero => rfl
 | succ k ih => simp [schS, ih]
end
end Go.Proofs.YtigafnbofmiknaaGreatDoor
