/-
  Pool: Take.
-/
import Derived.Test.YtnhjokcjdjfijaaDoorPlG
import Derived.OwnWalkIn
namespace Go.Proofs.YtnhjokcjdjfijaaDoor
open Go.RowKit Go.Shelf

attribute [local go_sem] Oper.semAt_some

theorem wpListIn_push_one {F : Fence} {m : Nat} {P : Program} (w : World) {ops : Array Oper} {rest : List Oper} {o : Oper} {a : Act} {Q : Exit → Act → World → Prop}
    (hg : o.guard = none) (s x : Operand) (t : TypeId) (ho : o.op = Op.call { callee := Callee.builtin Builtin.append, args := #[s, x], argTypes := #[t, t] })
    (base : Nat) (e : TypeId) (i : TypeInfo) (z : Value) (bytes : Nat) (ht : P.underlying t = some (.slice e)) (hi : P.info? e = some i) (hz : i.zero = some z) (hsize : i.size = 1) (hby : i.bytes = bytes) (hzs : z.cells.size = 1)
    (v : Value) (n : Nat) (xs : List Value) (hs : a.eval s = v) (hown : w.ownsRow base e 1 v n xs) (ad : Addr) (c : Nat) (u : Value) (hx : a.eval x = .slice (some ad) 1 c) (hcell : w.cell? ad = some u) (hu : u.oneCell' = true) (h63 : n + 1 ≤ 1000000000) (hb : bytes ≤ 100) (hbase : base ≤ w.heap.size)
    (h : ∀ A' cap' w', w'.ownsRow base e 1 (.slice A' (n + 1) cap') (n + 1) (xs ++ [u]) → w.grownBy w' v.ownBlock → ((Value.slice A' (n + 1) cap').ownBlock = v.ownBlock ∨ (Value.slice A' (n + 1) cap').ownBlock = some w.heap.size) → wpListIn F m P ops Q rest (a.put o.dst (.slice A' (n + 1) cap')) w') : wpListIn F m P ops Q (o :: rest) a w := by
  have hcells : ∀ j v, [u][j]? = some v → w.cell? (ad.add j) = some v := by
    intro j v hv
    rcases j with _ | j
    · simp at hv; subst hv; simpa [Addr.add] using hcell
    · simp at hv
  obtain ⟨v', w', hrun, h2, h3, _, h5⟩ := run_append_own_at (P := P) w base t o.type e i z 1 bytes ht hi hz hsize hby hzs (by omega) v n xs hown ad 1 c [u] (by simp) hcells (by intro v hv; simp at hv; subst hv; exact hu) (by unfold maxLen; omega)
    (Nat.le_trans (Nat.mul_le_mul h63 hb) (by omega)) hbase
  obtain ⟨A', cap', rfl⟩ := own_slice w' h2
  refine wpListIn_plain hg fun K hK' => ?_
  unfold Oper.wpIn
  refine ⟨?_, ?_⟩
  · simp [Oper.about, ho, resolve, Target.leads, Sem.run_pure]
  · rw [Oper.semAt_plain F _ _ (by rw [ho]; intro c hc'; cases hc')]
    simp [execOp, ho, resolve, invoke, builtin, hs, hx, hrun, Result.andThen]
    exact hK' _ _ (h A' cap' w' h2 h3 h5)

theorem own_at {A : Option Addr} {n c k : Nat} (h : (Value.slice A n c).ownBlock = some k) : ∃ a, A = some a ∧ a.block = k := by
  rcases A with _ | a
  · simp [Value.ownBlock] at h
  · exact ⟨a, rfl, by simpa [Value.ownBlock] using h⟩
theorem RowS.push {W W2 : World} {S : Nat → Prop} {A A' B : Option Addr} {n c n' c' d : Nat} {zs : List (Value × List UInt8)} {x : List UInt8} (h : RowS W S A n c zs) (hB : BytesAt W B x) (hBS : ∀ ad, B = some ad → x ≠ [] → S ad.block ∧ (∀ a, A = some a → a.block ≠ ad.block) ∧ Soft W ad.block)
    (hown : W2.ownsRow 0 30 1 (.slice A' n' c') n' (zs.map (·.1) ++ [.slice B x.length d])) (hg : (W.alloc (.cells #[.slice B x.length d] 30)).grownBy W2 (Value.slice A n c).ownBlock)
    (hat : (Value.slice A' n' c').ownBlock = (Value.slice A n c).ownBlock ∨ (Value.slice A' n' c').ownBlock = some (W.alloc (.cells #[.slice B x.length d] 30)).heap.size) (hS : ∀ k, W.heap.size ≤ k → S k) :
    RowS W2 S A' n' c' (zs ++ [(.slice B x.length d, x)]) ∧ Kept (atB A) W W2 ∧ ∀ ad, A' = some ad → atB A ad.block ∨ W.heap.size < ad.block := by
  have K3 : Kept (atB A) W W2 := ((Kept.refl _ W).alloc (.cells #[.slice B x.length d] 30)).next (Kept.of_grown (F := atB A) hg (fun _ e => own_at e)) (fun _ _ h => h)
  have hlt : ∀ (B0 : Option Addr) (y : List UInt8), BytesAt W B0 y → ∀ ad, B0 = some ad → y ≠ [] → ad.block < W.heap.size := fun B0 y hb ad e hne => by
    obtain ⟨ad', e', hc⟩ := hb hne
    rw [e] at e'
    injection e' with e'
    subst e'
    have := World.block_lt_of_cell? W _ (hc 0 (List.length_pos_iff.2 hne))
    rwa [block_add] at this
  have hA' : ∀ ad, A' = some ad → atB A ad.block ∨ W.heap.size < ad.block := fun ad e => by
    subst e
    rcases hat with h | h
    · exact .inl (own_at (h.symm.trans rfl))
    · have e : ad.block = W.heap.size + 1 := by simpa [Value.ownBlock] using h
      exact .inr (by omega)
  have each : ∀ (z : Value × List UInt8) B0 c0, z.1 = .slice B0 z.2.length c0 → BytesAt W B0 z.2 → (∀ ad, B0 = some ad → z.2 ≠ [] → S ad.block ∧ (∀ a, A = some a → a.block ≠ ad.block) ∧ Soft W ad.block) → ElemS W2 S A' z := fun z B0 c0 g1 g2 g3 =>
    ⟨B0, c0, g1, g2.kept' K3 (fun ad e hne ⟨a, ea, eb⟩ => (g3 ad e hne).2.1 a ea eb), fun ad e hne => ⟨(g3 ad e hne).1, fun a ea => by
      rcases hA' a ea with ⟨a0, e0, e1⟩ | h
      · rw [← e1]; exact (g3 ad e hne).2.1 a0 e0
      · have := hlt B0 z.2 g2 ad e hne; omega, (g3 ad e hne).2.2.kept K3 (fun ⟨a, ea, eb⟩ => (g3 ad e hne).2.1 a ea eb)⟩⟩
  refine ⟨⟨by rw [List.map_append]; exact hown, fun ad e => ?_, fun z hz => ?_⟩, K3, hA'⟩
  · rcases hA' ad e with ⟨a0, e0, e1⟩ | h
    · rw [← e1]; exact h.2.1 a0 e0
    · exact hS _ (by omega)
  · rcases List.mem_append.1 hz with hz | hz
    · obtain ⟨B0, c0, g1, g2, g3⟩ := h.2.2 z hz
      exact each z B0 c0 g1 g2 g3
    · rw [List.mem_singleton.1 hz]
      exact each _ B d rfl hB hBS

/-- The first nn of L that aren't in D. -/
def takeL (nn : Int) (D L : List (List UInt8)) : List (List UInt8) := (dropL L D).take nn.toNat
theorem takeL_stop {nn : Int} {D L : List (List UInt8)} {k : Nat} (h : nn ≤ ((takeL nn D (L.take k)).length : Int)) : takeL nn D (L.take k) = takeL nn D L := by
  have h1 : dropL L D = dropL (L.take k) D ++ dropL (L.drop k) D := by rw [dropL, dropL, dropL, ← List.filter_append, List.take_append_drop]
  rw [takeL, takeL, h1]
  simp only [takeL, List.length_take] at h
  rw [List.take_append_of_le_length (by omega)]
theorem takeL_go {nn : Int} {D L : List (List UInt8)} {k : Nat} {x : List UInt8} (hx : L[k]? = some x) (h : ((takeL nn D (L.take k)).length : Int) < nn) : takeL nn D (L.take (k + 1)) = if isIn D x then takeL nn D (L.take k) else takeL nn D (L.take k) ++ [x] := by
  have h1 : dropL (L.take (k + 1)) D = dropL (L.take k) D ++ if isIn D x then [] else [x] := by
    rw [dropL, dropL, List.take_add_one, List.filter_append, hx]
    cases hd : isIn D x <;> simp [hd]
  simp only [takeL, List.length_take] at h
  have hw : takeL nn D (L.take k) = dropL (L.take k) D := by rw [takeL, List.take_of_length_le (by omega)]
  rw [hw, takeL, h1]
  cases hd : isIn D x
  · simp only [Bool.false_eq_true, if_false]
    rw [List.take_of_length_le (by rw [List.length_append, List.length_singleton]; omega)]
  · simp only [if_true, List.append_nil]
    rw [List.take_of_length_le (by omega)]

/-- What has been taken when these have come. -/
def TakeI (w W0 : World) (nn : Int) (A0 : Option Addr) (nD cD : Nat) (T : Nat → Prop) (D : List (List UInt8)) (pre : List Tx) (M : List (List UInt8)) (W : World) : Prop :=
  Blk W w.heap.size 3 #[.int .i64 nn] ∧ Blk W (w.heap.size + 1) 31 #[.slice A0 nD cD] ∧ LsIn W T A0 D ∧ Kept (fun b => w.heap.size + 2 ≤ b) W0 W ∧
    ∃ (A : Option Addr) (c : Nat) (zs : List (Value × List UInt8)), Blk W (w.heap.size + 2) 31 #[.slice A M.length c] ∧ RowS W (fun b => W0.heap.size ≤ b) A M.length c zs ∧ zs.map (·.2) = M ∧ (∀ ad, A = some ad → ∃ y ∈ pre, y.hi ≤ ad.block)
theorem cells_same {W W' : World} {row : Option Nat} (hg : W.grownBy W' row) (hr : ∀ r, row = some r → ∃ o : Obj, W.heap[r]? = some o ∧ o.isCells = false) : ∀ (b : Nat) (o : Obj), W.heap[b]? = some o → o.isCells = true → W'.heap[b]? = some o := fun b o ho hc =>
  (hg.block b (Array.getElem?_eq_some_iff.1 ho).1 (fun e => by
    obtain ⟨o', h1, h2⟩ := hr b e.symm
    rw [ho] at h1
    injection h1 with h1
    subst h1
    rw [hc] at h2
    cases h2)).trans ho
theorem LsIn.same {W W' : World} {T : Nat → Prop} {A : Option Addr} {xs : List (List UInt8)} (h : LsIn W T A xs) (hs : ∀ (b : Nat) (o : Obj), W.heap[b]? = some o → o.isCells = true → W'.heap[b]? = some o) : LsIn W' T A xs := fun hne => by
  obtain ⟨b, off, e, hb, hc⟩ := h hne
  refine ⟨b, off, e, hb, fun j hj => ?_⟩
  obtain ⟨B, c, h1, h2, h3⟩ := hc j hj
  obtain ⟨o, ho, hoc⟩ := cells_of_cell h1
  refine ⟨B, c, (World.cell?_of_block ((hs _ o ho hoc).trans ho.symm)).trans h1, fun hne' => ?_, h3⟩
  obtain ⟨ad, e', hc'⟩ := h2 hne'
  refine ⟨ad, e', fun i hi => ?_⟩
  obtain ⟨o, ho, hoc⟩ := cells_of_cell (hc' i hi)
  exact (World.cell?_of_block ((hs _ o ho hoc).trans ho.symm)).trans (hc' i hi)
theorem takeI_own {β : Type} {w W0 : World} {nn : Int} {A0 : Option Addr} {nD cD : Nat} {T : Nat → Prop} {D : List (List UInt8)} (f : β → List Tx) (M : β → List (List UInt8)) {B : Nat} (hB : w.heap.size + 2 ≤ B) : OwnFrom B (fun s W => TakeI w W0 nn A0 nD cD T D (f s) (M s) W) := fun s W W' row hs hg hr => by
  obtain ⟨h1, h2, h3, h4, A, c, zs, h5, h6, h7, h8⟩ := hs
  have same := cells_same hg (fun r e => (hr r e).2)
  have hbl : ∀ {b t cs}, Blk W b t cs → Blk W' b t cs := fun h => same _ _ h rfl
  refine ⟨hbl h1, hbl h2, h3.same same, h4.next (Kept.of_grown (F := fun b => w.heap.size + 2 ≤ b) hg (fun r e => by have := (hr r e).1; omega)) (fun _ _ h => h), A, c, zs, hbl h5, ?_, h7, h8⟩
  exact (h6.mono (T := fun b => W0.heap.size ≤ b ∧ b < W.heap.size) (fun k hk h => ⟨h, hk⟩)).still (lo := W0.heap.size) (hi := W.heap.size) (fun _ h => h) ⟨hg.size, fun b o _ _ h1 h2 => same b o h1 h2⟩ |>.mono (fun _ _ h => h.1)
/-- What is known of the transaction at hand in a round. -/
def TxAt (N : Nat) (L : List (List UInt8)) (pre : List Tx) (t : Tx) (W : World) : Prop := PhiT N L pre (fun _ => True) t W
theorem txAt_own {N : Nat} {L : List (List UInt8)} {pre : List Tx} {t : Tx} {B : Nat} : OwnFrom B (fun (_ : Unit) W => TxAt N L pre t W) := fun _ W W' row hs hg hr => by
  obtain ⟨h1, h2, h3, h4, h5, h6, h7⟩ := hs
  have same := cells_same hg (fun r e => (hr r e).2)
  have hst : Still t.lo t.hi W W' := ⟨hg.size, fun b o _ _ q1 q2 => same b o q1 q2⟩
  exact ⟨h1, h2.still h3 hst, h3, Nat.le_trans h4 hg.size, h5, h6, fun ad e hne => (h7 ad e hne).still (h3 ad e hne).1 (h3 ad e hne).2 hst⟩
def takeOk (nn : Int) (D L : List (List UInt8)) (w : World) (e : Ending) (w' : World) : Prop :=
  ∃ (A : Option Addr) (c : Nat) (zs : List (Value × List UInt8)), e = .returned (.slice A (takeL nn D L).length c) ∧ RowS w' (fun b => w.heap.size ≤ b) A (takeL nn D L).length c zs ∧ zs.map (·.2) = takeL nn D L ∧ w.grownBy w' none
end Go.Proofs.YtnhjokcjdjfijaaDoor
