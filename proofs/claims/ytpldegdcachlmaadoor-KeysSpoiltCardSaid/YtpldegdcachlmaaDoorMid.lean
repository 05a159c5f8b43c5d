/-
  Two copies of rows of digests and a box, made in whatever order: what is known between. A byte of a digest that is changed.
-/
import Derived.Test.YtpldegdcachlmaaDoorTrT4
namespace Go.Proofs.YtpldegdcachlmaaDoor
open Go.RowKit

theorem run_slice_none (V : World) : Sem.run Tryd.prog (Instr.buildSlice 27 0 #[]) V = .ok (.slice (some ⟨V.heap.size, 0, none⟩) 0 0) (V.alloc (.cells #[] 23)) := by
  cases hq : Tryd.prog.info? 23 with
  | none => exact absurd info16 (by rw [hq]; simp)
  | some i =>
    simp [Instr.buildSlice, run_underlying Tryd.underlying27, sizeOf, typeInfo, hq, newRow, Instr.fill]
    have e : Array.range 0 = #[] := Array.eq_empty_of_size_eq_zero (by simp)
    rw [e, Array.map_empty]
theorem wp_bslice0 {P : Program} {o : Oper} {a : Act} {w w' : World} {K : Act → World → Prop} {Q : Exit → Act → World → Prop} (t : TypeId) (ho : o.op = .buildSlice t 0 #[]) (V : Value)
    (hr : Sem.run P (Instr.buildSlice t 0 #[]) w = .ok V w') (h : K (a.put o.dst V) w') : o.wp P a w K Q := by
  unfold Oper.wp execOp
  simp only [ho, Sem.run_bind, List.map_toArray, List.map_nil, hr, Result.andThen_ok]
  exact h
theorem wp_copy_digs {o : Oper} {a : Act} {w0 : World} {K : Act → World → Prop} {Q : Exit → Act → World → Prop} (s x : Operand)
    (ho : o.op = .call { callee := .builtin .append, args := #[s, x], argTypes := #[27, 27] }) (base : Nat) (v : Value) (hs : a.eval s = v) (hown : w0.ownsRow base 23 16 v 0 [])
    (b off n c : Nat) (hx : a.eval x = .slice (some ⟨b, off, none⟩) n c) (ps : List (List Int)) (hl : ps.length = n) (h0 : 0 < n) (hn : n ≤ 1000) (hps : ∀ p ∈ ps, isDig p) (hD : DigsAt w0 b off ps) (hbase : base ≤ w0.heap.size)
    (h : ∀ gw cw w', base ≤ gw → n ≤ cw → w'.there gw 0 (n * 16) → DigsAt w' gw 0 ps → w0.grownBy w' v.ownBlock → (some gw = v.ownBlock ∨ w0.heap.size ≤ gw) → K (a.put o.dst (.slice (some ⟨gw, 0, none⟩) n cw)) w') : o.wp Tryd.prog a w0 K Q := by
  obtain ⟨i0, hi0, hz0, hz1, hz2⟩ := info_parts info16q
  obtain ⟨f, hf⟩ : ∃ f : Nat → Array Value, f = fun k => arrV .u8 (ps.getD k zeroC) := ⟨_, rfl⟩
  have hf16 : ∀ k, (f k).size = 16 := fun k => by rw [hf, arr_size]; exact (getD_dig hps k).1
  have hf1 : ∀ k, ((f k).all fun v => v.oneCell') = true := fun k => by rw [hf]; exact arr_one _ _
  obtain ⟨L, hL⟩ : ∃ L, L = rowV f n := ⟨_, rfl⟩
  obtain ⟨v', w4, hrun, hown', hgrow, _, hat⟩ := run_append_own_at (P := Tryd.prog) w0 base 27 o.type 23 i0 _ 16 16 Tryd.underlying27 hi0 hz0 hz1 hz2 rfl (by decide) v 0 [] hown ⟨b, off, none⟩ n c L (by rw [hL]; exact rowV_length f hf16 n)
    (fun j u hu => by
      rw [addr_off_add]
      rw [hL] at hu
      exact rowV_cells_at f hf16 n (fun k hk => by rw [hf]; exact hD k (by omega)) j u hu)
    (by rw [hL]; exact rowV_one f hf1 n) (by simp only [maxLen]; omega) (by omega) hbase
  rw [Nat.zero_add, List.nil_append, hL] at hown'
  obtain ⟨gw, cw, rfl, hc, hb, hth, hr⟩ := own_rows f hf16 h0 hown'
  unfold Oper.wp execOp
  simp only [ho, resolve, invoke, builtin, Sem.run_bind, Sem.run_pure, Result.andThen_ok, List.map_toArray, List.map_cons, List.map_nil, hs, hx, hrun]
  refine h gw cw w4 hb hc hth (fun j hj => by have := hr j (by omega); rw [hf] at this; exact this) hgrow ?_
  simp only [Value.ownBlock] at hat ⊢
  rcases hat with e | e
  · exact .inl e
  · right; have := Option.some.inj e; omega

/-- A copy under way: 0 not begun, 1 its empty row is there, 2 it is made. -/
def Part (N : Nat) (V : World) (n : Nat) (ps : List (List Int)) (k : Nat) (v : Value) : Prop :=
  (k = 1 → ∃ a, v = .slice (some ⟨a, 0, none⟩) 0 0 ∧ N ≤ a ∧ a < V.heap.size ∧ V.ownsRow N 23 16 v 0 []) ∧
  (k = 2 → ∃ g c, v = .slice (some ⟨g, 0, none⟩) n c ∧ n ≤ c ∧ N ≤ g ∧ g < V.heap.size ∧ DigsAt V g 0 ps ∧ V.there g 0 (n * 16))
theorem Part.to {N n k : Nat} {V V' : World} {ps : List (List Int)} {v : Value} {row : Option Nat} (h : Part N V n ps k v) (hg : V.grownBy V' row) (hr : k ≠ 0 → v.ownBlock ≠ row ∨ row = none) : Part N V' n ps k v := by
  have key : ∀ g m c, k ≠ 0 → v = .slice (some ⟨g, 0, none⟩) m c → some g ≠ row := fun g m c hk e => by
    rcases hr hk with h1 | h1
    · rw [e] at h1; simpa [Value.ownBlock] using h1
    · rw [h1]; simp
  refine ⟨fun hk => ?_, fun hk => ?_⟩
  · obtain ⟨a, e, h1, h2, h3⟩ := h.1 hk
    have hne := key a 0 0 (by omega) e
    exact ⟨a, e, h1, Nat.lt_of_lt_of_le h2 hg.size, h3.kept hg (.inr (by rw [e]; simpa [Value.ownBlock] using hne))⟩
  · obtain ⟨g, c, e, h0, h1, h2, h3, h4⟩ := h.2 hk
    have hne := key g n c (by omega) e
    exact ⟨g, c, e, h0, h1, Nat.lt_of_lt_of_le h2 hg.size, fun j hj => range_to (h3 j hj) hg hne, there_to h4 hg hne⟩
theorem Part.lt {N n k : Nat} {V : World} {ps : List (List Int)} {v : Value} (h : Part N V n ps k v) (hk : k = 1 ∨ k = 2) : ∃ g, v.ownBlock = some g ∧ N ≤ g ∧ g < V.heap.size := by
  rcases hk with hk | hk
  · obtain ⟨a, e, h1, h2, _⟩ := h.1 hk; exact ⟨a, by rw [e]; rfl, h1, h2⟩
  · obtain ⟨a, c, e, _, h1, h2, _⟩ := h.2 hk; exact ⟨a, by rw [e]; rfl, h1, h2⟩
/-- What is known between: two copies and a box. -/
structure Mid (w4 V : World) (n1 n2 : Nat) (ps qs : List (List Int)) (t : TypeId) (Z : Array Value) (k1 : Nat) (v1 : Value) (k2 : Nat) (v2 : Value) (k3 : Nat) (qt : Nat) : Prop where
  grow : w4.grownBy V none
  one : Part w4.heap.size V n1 ps k1 v1
  two : Part w4.heap.size V n2 qs k2 v2
  box : k3 = 1 → Blk V qt t Z ∧ w4.heap.size ≤ qt
  ok1 : k1 ≤ 2
  ok2 : k2 ≤ 2
  d12 : k1 ≠ 0 → k2 ≠ 0 → v1.ownBlock ≠ v2.ownBlock
  d13 : k1 ≠ 0 → k3 = 1 → v1.ownBlock ≠ some qt
  d23 : k2 ≠ 0 → k3 = 1 → v2.ownBlock ≠ some qt
section
variable {w4 V : World} {n1 n2 : Nat} {ps qs : List (List Int)} {t : TypeId} {Z : Array Value} {k1 k2 k3 qt : Nat} {v1 v2 : Value}
theorem Mid.old (h : Mid w4 V n1 n2 ps qs t Z k1 v1 k2 v2 k3 qt) {V' : World} (hg : V.grownBy V' none) : Mid w4 V' n1 n2 ps qs t Z k1 v1 k2 v2 k3 qt :=
  ⟨grown_trans h.grow hg, h.one.to hg (fun _ => .inr rfl), h.two.to hg (fun _ => .inr rfl), fun hk => ⟨(h.box hk).1.grown hg (by simp), (h.box hk).2⟩, h.ok1, h.ok2, h.d12, h.d13, h.d23⟩
theorem lit_own (N : Nat) (V : World) (hN : N ≤ V.heap.size) : Part N (V.alloc (.cells #[] 23)) n1 ps 1 (.slice (some ⟨V.heap.size, 0, none⟩) 0 0) :=
  ⟨fun _ => ⟨V.heap.size, rfl, hN, by simp, World.ownsRow_lit (base := N) (e := 23) (size := 16) V #[] 0 hN (by decide) rfl⟩, fun h => by omega⟩
theorem Mid.lit1 (h : Mid w4 V n1 n2 ps qs t Z 0 v1 k2 v2 k3 qt) : Mid w4 (V.alloc (.cells #[] 23)) n1 n2 ps qs t Z 1 (.slice (some ⟨V.heap.size, 0, none⟩) 0 0) k2 v2 k3 qt := by
  have ho := h.old (World.grownBy_alloc V (.cells #[] 23) none)
  refine ⟨ho.grow, lit_own _ V h.grow.size, ho.two, ho.box, by omega, h.ok2, fun _ hk => ?_, fun _ hk => ?_, h.d23⟩
  · obtain ⟨g, e, _, hlt⟩ := h.two.lt (by have := h.ok2; omega)
    rw [e]; simp [Value.ownBlock]; omega
  · have := (h.box hk).1.lt
    simp [Value.ownBlock]; omega
theorem Mid.lit2 (h : Mid w4 V n1 n2 ps qs t Z k1 v1 0 v2 k3 qt) : Mid w4 (V.alloc (.cells #[] 23)) n1 n2 ps qs t Z k1 v1 1 (.slice (some ⟨V.heap.size, 0, none⟩) 0 0) k3 qt := by
  have ho := h.old (World.grownBy_alloc V (.cells #[] 23) none)
  refine ⟨ho.grow, ho.one, lit_own _ V h.grow.size, ho.box, h.ok1, by omega, fun hk _ => ?_, h.d13, fun _ hk => ?_⟩
  · obtain ⟨g, e, _, hlt⟩ := h.one.lt (by have := h.ok1; omega)
    rw [e]; simp [Value.ownBlock]; omega
  · have := (h.box hk).1.lt
    simp [Value.ownBlock]; omega
theorem Mid.box1 (h : Mid w4 V n1 n2 ps qs t Z k1 v1 k2 v2 0 qt) : Mid w4 (V.alloc (.cells Z t)) n1 n2 ps qs t Z k1 v1 k2 v2 1 V.heap.size := by
  have ho := h.old (World.grownBy_alloc V (.cells Z t) none)
  refine ⟨ho.grow, ho.one, ho.two, fun _ => ⟨Blk.new V t Z, h.grow.size⟩, h.ok1, h.ok2, h.d12, fun hk _ => ?_, fun hk _ => ?_⟩
  · obtain ⟨g, e, _, hlt⟩ := h.one.lt (by have := h.ok1; omega)
    rw [e]; simp; omega
  · obtain ⟨g, e, _, hlt⟩ := h.two.lt (by have := h.ok2; omega)
    rw [e]; simp; omega
theorem Mid.app1 (h : Mid w4 V n1 n2 ps qs t Z 1 v1 k2 v2 k3 qt) {gw cw : Nat} {V' : World} (h0 : 0 < n1) (hps : ∀ p ∈ ps, isDig p) (hl : ps.length = n1) (hb : w4.heap.size ≤ gw) (hc : n1 ≤ cw) (hth : V'.there gw 0 (n1 * 16)) (hD : DigsAt V' gw 0 ps) (hg : V.grownBy V' v1.ownBlock) (hat : some gw = v1.ownBlock ∨ V.heap.size ≤ gw) :
    Mid w4 V' n1 n2 ps qs t Z 2 (.slice (some ⟨gw, 0, none⟩) n1 cw) k2 v2 k3 qt := by
  obtain ⟨a, e, ha, hlt⟩ := h.one.lt (.inl rfl)
  have hgl : gw < V'.heap.size := by
    have h1 := hD 0 (by omega)
    have hl0 := (getD_dig hps 0).1
    exact World.block_lt_of_cell? V' ⟨gw, 0 + 0 * 16 + 0, none⟩ (h1 0 (.int .u8 ((ps.getD 0 zeroC).getD 0 0)) (by rw [Array.getElem?_toList]; exact arr_get (by omega)))
  refine ⟨by rw [e] at hg; exact grown_fresh h.grow hg ha, ⟨fun hk => by omega, fun _ => ⟨gw, cw, rfl, hc, hb, hgl, hD, hth⟩⟩, h.two.to hg (fun hk => .inl (h.d12 (by omega) hk).symm), fun hk => ⟨(h.box hk).1.grown hg (fun e' => h.d13 (by omega) hk e'.symm), (h.box hk).2⟩, by omega, h.ok2, fun _ hk => ?_, fun _ hk => ?_, h.d23⟩
  · rcases hat with e1 | e1
    · show some gw ≠ _; rw [e1]; exact h.d12 (by omega) hk
    · obtain ⟨g, e2, _, hl2⟩ := h.two.lt (by have := h.ok2; omega)
      rw [e2]; simp [Value.ownBlock]; omega
  · rcases hat with e1 | e1
    · show some gw ≠ _; rw [e1]; exact h.d13 (by omega) hk
    · have := (h.box hk).1.lt
      simp [Value.ownBlock]; omega
theorem Mid.app2 (h : Mid w4 V n1 n2 ps qs t Z k1 v1 1 v2 k3 qt) {gw cw : Nat} {V' : World} (h0 : 0 < n2) (hps : ∀ p ∈ qs, isDig p) (hl : qs.length = n2) (hb : w4.heap.size ≤ gw) (hc : n2 ≤ cw) (hth : V'.there gw 0 (n2 * 16)) (hD : DigsAt V' gw 0 qs) (hg : V.grownBy V' v2.ownBlock) (hat : some gw = v2.ownBlock ∨ V.heap.size ≤ gw) :
    Mid w4 V' n1 n2 ps qs t Z k1 v1 2 (.slice (some ⟨gw, 0, none⟩) n2 cw) k3 qt := by
  obtain ⟨a, e, ha, hlt⟩ := h.two.lt (.inl rfl)
  have hgl : gw < V'.heap.size := by
    have h1 := hD 0 (by omega)
    have hl0 := (getD_dig hps 0).1
    exact World.block_lt_of_cell? V' ⟨gw, 0 + 0 * 16 + 0, none⟩ (h1 0 (.int .u8 ((qs.getD 0 zeroC).getD 0 0)) (by rw [Array.getElem?_toList]; exact arr_get (by omega)))
  refine ⟨by rw [e] at hg; exact grown_fresh h.grow hg ha, h.one.to hg (fun hk => .inl (h.d12 hk (by omega))), ⟨fun hk => by omega, fun _ => ⟨gw, cw, rfl, hc, hb, hgl, hD, hth⟩⟩, fun hk => ⟨(h.box hk).1.grown hg (fun e' => h.d23 (by omega) hk e'.symm), (h.box hk).2⟩, h.ok1, by omega, fun hk _ => ?_, h.d13, fun _ hk => ?_⟩
  · rcases hat with e1 | e1
    · show _ ≠ some gw; rw [e1]; exact h.d12 hk (by omega)
    · obtain ⟨g, e2, _, hl2⟩ := h.one.lt (by have := h.ok1; omega)
      rw [e2]; simp [Value.ownBlock]; omega
  · rcases hat with e1 | e1
    · show some gw ≠ _; rw [e1]; exact h.d23 (by omega) hk
    · have := (h.box hk).1.lt
      simp [Value.ownBlock]; omega
end

theorem wp_alloc_run {P : Program} {o : Oper} {a : Act} {w : World} {K : Act → World → Prop} {Q : Exit → Act → World → Prop} (t : TypeId) (ho : o.op = .alloc t) (Z : Array Value)
    (hz : Sem.run P (zeroValue t) w = .ok (.agg Z) w) (h : K (a.put o.dst (.pointer (some ⟨w.heap.size, 0, none⟩))) (w.alloc (.cells Z t))) : o.wp P a w K Q := by
  have hr : Sem.run P (Instr.alloc t true (.tuple #[])) w = .ok (.pointer (some ⟨w.heap.size, 0, none⟩)) (w.alloc (.cells Z t)) := by
    simp [Instr.alloc, Sem.run_bind, hz, newVar, newRow, Result.andThen_ok, Value.cells]
  unfold Oper.wp execOp
  simp only [ho, Sem.run_bind, hr, Result.andThen_ok]
  exact h
theorem wp_build3_run {P : Program} {o : Oper} {a : Act} {w : World} {K : Act → World → Prop} {Q : Exit → Act → World → Prop} (t : TypeId) (x y z : Operand) (ho : o.op = .build t #[(0, x), (1, y), (2, z)]) (u v t' V : Value) (hx : a.eval x = u) (hy : a.eval y = v) (hz : a.eval z = t')
    (hr : Sem.run P (Instr.build t #[(0, u), (1, v), (2, t')]) w = .ok V w) (h : K (a.put o.dst V) w) : o.wp P a w K Q := by
  have hm : (#[(0, x), (1, y), (2, z)] : Array (Nat × Operand)).map (fun (i, x) => (i, a.eval x)) = #[(0, u), (1, v), (2, t')] := by simp [hx, hy, hz]
  unfold Oper.wp execOp
  simp only [ho, Sem.run_bind, hm, hr, Result.andThen_ok]
  exact h
/-- What came of it. -/
def Copied (w4 wx : World) (n1 n2 : Nat) (ps qs : List (List Int)) (t : TypeId) (S : Value → Value → Array Value) (v6 : Value) : Prop :=
  ∃ qt g1 c1 g2 c2, v6 = .pointer (some ⟨qt, 0, none⟩) ∧ Blk wx qt t (S (.slice (some ⟨g1, 0, none⟩) n1 c1) (.slice (some ⟨g2, 0, none⟩) n2 c2)) ∧ DigsAt wx g1 0 ps ∧ wx.there g1 0 (n1 * 16) ∧ DigsAt wx g2 0 qs ∧ wx.there g2 0 (n2 * 16) ∧
    w4.grownBy wx none ∧ w4.heap.size ≤ qt ∧ w4.heap.size ≤ g1 ∧ w4.heap.size ≤ g2 ∧ g1 ≠ g2 ∧ g1 ≠ qt ∧ g2 ≠ qt
theorem Mid.done {w4 V : World} {n1 n2 : Nat} {ps qs : List (List Int)} {t : TypeId} {Z : Array Value} {qt g1 c1 g2 c2 : Nat} (h : Mid w4 V n1 n2 ps qs t Z 2 (.slice (some ⟨g1, 0, none⟩) n1 c1) 2 (.slice (some ⟨g2, 0, none⟩) n2 c2) 1 qt) (S : Value → Value → Array Value) :
    Copied w4 (V.setRow qt (S (.slice (some ⟨g1, 0, none⟩) n1 c1) (.slice (some ⟨g2, 0, none⟩) n2 c2))) n1 n2 ps qs t S (.pointer (some ⟨qt, 0, none⟩)) := by
  obtain ⟨h1, h2⟩ := h.box rfl
  obtain ⟨a1, _, e1, _, m1, _, d1, t1⟩ := h.one.2 rfl
  obtain ⟨a2, _, e2, _, m2, _, d2, t2⟩ := h.two.2 rfl
  obtain rfl : g1 = a1 := by injection e1 with e; injection e with e; injection e
  obtain rfl : g2 = a2 := by injection e2 with e; injection e with e; injection e
  have n12 : g1 ≠ g2 := by have := h.d12 (by omega) (by omega); simpa [Value.ownBlock] using this
  have n13 : g1 ≠ qt := by have := h.d13 (by omega) rfl; simpa [Value.ownBlock] using this
  have n23 : g2 ≠ qt := by have := h.d23 (by omega) rfl; simpa [Value.ownBlock] using this
  have hrow := grown_row (World.grownBy.refl V (some qt)) (.inr rfl) (S (.slice (some ⟨g1, 0, none⟩) n1 c1) (.slice (some ⟨g2, 0, none⟩) n2 c2))
  have f1 : some g1 ≠ some qt := fun e => n13 (Option.some.inj e)
  have f2 : some g2 ≠ some qt := fun e => n23 (Option.some.inj e)
  exact ⟨qt, g1, c1, g2, c2, rfl, h1.row _, fun j hj => range_to (d1 j hj) hrow f1, there_to t1 hrow f1, fun j hj => range_to (d2 j hj) hrow f2, there_to t2 hrow f2, grown_fresh h.grow hrow h2, h2, m1, m2, n12, n13, n23⟩

/-! ### A byte is changed -/
theorem u8_xor (a b : Int) (ha : 0 ≤ a ∧ a < 256) (hb : 0 ≤ b ∧ b < 256) : 0 ≤ bits .xor .u8 a b ∧ bits .xor .u8 a b < 256 ∧ (bits .xor .u8 a b = a ↔ b = 0) := by
  have h1 : bits .xor .u8 a b = (((BitVec.ofInt 8 a ^^^ BitVec.ofInt 8 b).toNat : Nat) : Int) % 256 := by
    show IntKind.u8.wrap (((BitVec.ofInt 8 a ^^^ BitVec.ofInt 8 b).toNat : Nat) : Int) = _
    simp [IntKind.wrap, IntKind.bits, IntKind.signed]
  have hlt := (BitVec.ofInt 8 a ^^^ BitVec.ofInt 8 b).isLt
  have hA : ((BitVec.ofInt 8 a).toNat : Int) = a := by rw [BitVec.toNat_ofInt]; omega
  have hBv : ((BitVec.ofInt 8 b).toNat : Int) = b := by rw [BitVec.toNat_ofInt]; omega
  refine ⟨by omega, by omega, ?_⟩
  have h2 : bits .xor .u8 a b = (((BitVec.ofInt 8 a ^^^ BitVec.ofInt 8 b).toNat : Nat) : Int) := by rw [h1]; omega
  rw [h2]
  constructor
  · intro h
    have e1 : (BitVec.ofInt 8 a ^^^ BitVec.ofInt 8 b) = BitVec.ofInt 8 a := BitVec.eq_of_toNat_eq (by omega)
    have e2 : BitVec.ofInt 8 b = 0#8 := by
      have := congrArg (fun x => BitVec.ofInt 8 a ^^^ x) e1
      simpa [← BitVec.xor_assoc] using this
    rw [e2] at hBv
    simpa using hBv.symm
  · intro h
    subst h
    have e2 : BitVec.ofInt 8 0 = 0#8 := rfl
    rw [e2, BitVec.xor_zero]
    exact hA
/-- A digest whose first byte is another. -/
def spoilC (p : List Int) (y : Int) : List Int := y :: p.tail
theorem spoilC_dig {p : List Int} (hp : isDig p) (y : Int) (hy : 0 ≤ y ∧ y < 256) : isDig (spoilC p y) := by
  obtain ⟨h1, h2⟩ := hp
  match p, h1, h2 with
  | x :: r, h1, h2 => exact ⟨by simpa [spoilC] using h1, fun z hz => by
      rcases List.mem_cons.1 hz with e | hz
      · rw [e]; exact hy
      · exact h2 z (List.mem_cons_of_mem _ hz)⟩
theorem spoilC_eq {p : List Int} (hp : isDig p) (y : Int) : spoilC p y = p ↔ y = p.getD 0 0 := by
  obtain ⟨h1, _⟩ := hp
  match p, h1 with
  | x :: r, _ => simp [spoilC]
/-- A row whose j-th digest is spoilt. -/
def spoilL (ps : List (List Int)) (j : Nat) (y : Int) : List (List Int) := ps.set j (spoilC (ps.getD j zeroC) y)
theorem spoilL_length (ps : List (List Int)) (j : Nat) (y : Int) : (spoilL ps j y).length = ps.length := by simp [spoilL]
theorem spoilL_dig {ps : List (List Int)} (hps : ∀ p ∈ ps, isDig p) (j : Nat) (y : Int) (hy : 0 ≤ y ∧ y < 256) : ∀ p ∈ spoilL ps j y, isDig p := by
  intro p hp
  rcases List.mem_or_eq_of_mem_set hp with h | h
  · exact hps p h
  · rw [h]; exact spoilC_dig (getD_dig hps j) y hy
theorem spoilL_eq {ps : List (List Int)} (hps : ∀ p ∈ ps, isDig p) {j : Nat} (hj : j < ps.length) (y : Int) : spoilL ps j y = ps ↔ y = (ps.getD j zeroC).getD 0 0 := by
  rw [← spoilC_eq (getD_dig hps j)]
  constructor
  · intro h
    have h1 := congrArg (fun l => l.getD j zeroC) h
    simpa [spoilL, List.getD, hj] using h1
  · intro h
    rw [spoilL, h]
    apply List.ext_getElem (by simp)
    intro k h1 h2
    rw [List.getElem_set]
    split
    · rename_i e; subst e; simp [List.getD, hj]
    · rfl
theorem digs_spoil {w : World} {g j : Nat} {ps : List (List Int)} (hps : ∀ p ∈ ps, isDig p) (hj : j < ps.length) (h : DigsAt w g 0 ps) (ht : w.there g 0 (ps.length * 16)) (y : Int) : DigsAt (w.setCell ⟨g, j * 16, none⟩ (.int .u8 y)) g 0 (spoilL ps j y) := by
  have e : w.setCell ⟨g, j * 16, none⟩ (.int .u8 y) = w.setCells g (j * 16) [.int .u8 y] := rfl
  rw [e]
  intro k hk
  rw [spoilL_length] at hk
  have hr := h k hk
  have hd := getD_dig hps k
  by_cases hkj : k = j
  · subst hkj
    have e1 : (spoilL ps k y).getD k zeroC = spoilC (ps.getD k zeroC) y := by simp [spoilL, List.getD, hk]
    rw [e1]
    generalize ps.getD k zeroC = p at *
    obtain ⟨hp1, _⟩ := hd
    match p, hp1 with
    | x :: r, hp1 =>
      intro i v hv
      have hcell : ∀ i v, (arrV .u8 (x :: r)).toList[i]? = some v → w.cell? ⟨g, 0 + k * 16 + i, none⟩ = some v := hr
      cases i with
      | zero =>
        have := World.rangeAt_setCells_same w g (k * 16) [.int .u8 y] (there_sub ht (by omega) (by simp; omega)) 0 (.int .u8 y) rfl
        have hv' : Value.int .u8 y = v := by simpa [spoilC, arrV] using hv
        rw [← hv']
        simpa using this
      | succ i =>
        have hv' : (arrV .u8 (x :: r)).toList[i + 1]? = some v := by simpa [spoilC, arrV] using hv
        have h1 : w.rangeAt g (k * 16 + (i + 1)) [v] := fun q u hu => by
          have hq : q = 0 := by have := (List.getElem?_eq_some_iff.1 hu).1; simp at this; omega
          subst hq
          have : v = u := by simpa using hu
          subst this
          have := hcell (i + 1) v hv'
          rwa [Nat.zero_add] at this
        have := World.rangeAt_setCells_apart h1 g (k * 16) [.int .u8 y] (.inr (.inr (by simp))) 0 v rfl
        rw [Nat.zero_add]
        simpa using this
  · have e1 : (spoilL ps j y).getD k zeroC = ps.getD k zeroC := by simp [spoilL, List.getD, List.getElem?_set, Ne.symm hkj]
    rw [e1]
    have l1 : (arrV .u8 (ps.getD k zeroC)).toList.length = 16 := by rw [Array.length_toList, arr_size]; exact hd.1
    exact World.rangeAt_setCells_apart hr _ _ _ (.inr (by rw [l1]; simp; omega))
end Go.Proofs.YtpldegdcachlmaaDoor
