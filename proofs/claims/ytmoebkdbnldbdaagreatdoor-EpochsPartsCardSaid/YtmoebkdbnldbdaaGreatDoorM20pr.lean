/-
  Several texts in one: PwLb, Rt, Grow, Ge.
-/
import Derived.Great.BuildSlice
import Derived.Test.YtmoebkdbnldbdaaGreatDoorM20pq
import Derived.Test.YtmoebkdbnldbdaaGreatDoorM20pj
import Derived.Test.YtmoebkdbnldbdaaGreatDoorM20pa
import Derived.BigQuiet
import Derived.Test.YtmoebkdbnldbdaaGreatDoorM20po
/-
  Rows of validators and of numbers that the code lays.
-/
namespace Go.Proofs.YtmoebkdbnldbdaaGreatDoor
open Go.RowKit

section
variable {P : Program} {w : World} {ops : Array Oper} {rest : List Oper} {o : Oper} {a : Act} {Q : Exit → Act → World → Prop}
theorem wpList_build_at (hw : Region.wanted o (yielded ops a.tmps) = true) (t : TypeId) (parts : Array (Nat × Operand)) (ho : o.op = .build t parts) (ps : Array (Nat × Value)) (hp : (parts.map fun (i, x) => (i, a.eval x)) = ps) (V : Value)
    (hr : Sem.run P (Instr.build t ps) w = .ok V w) (h : wpList P ops Q rest (a.put o.dst V) w) : wpList P ops Q (o :: rest) a w :=
  BigFrame.wpList_want hw fun _ hK => by
    unfold Oper.wp execOp
    simp only [ho, hp, Sem.run_bind, hr, Result.andThen_ok, Sem.run_pure]
    exact hK _ _ h
theorem wpList_row_at (hw : Region.wanted o (yielded ops a.tmps) = true) (t : TypeId) (len : Nat) (parts : Array (Nat × Operand)) (ho : o.op = .buildSlice t len parts) (ps : Array (Nat × Value)) (hp : (parts.map fun (i, x) => (i, a.eval x)) = ps) (V : Value) (W : World)
    (hr : Sem.run P (Instr.buildSlice t len ps) w = .ok V W) (h : wpList P ops Q rest (a.put o.dst V) W) : wpList P ops Q (o :: rest) a w :=
  BigFrame.wpList_want hw fun _ hK => by
    unfold Oper.wp execOp
    simp only [ho, hp, Sem.run_bind, hr, Result.andThen_ok, Sem.run_pure]
    exact hK _ _ h
end

theorem flat_get : ∀ {V : List Vd} (_ : keysOk V) {k : Nat} (hk : k < V.length) {j : Nat} {v : Value}, V[k].cells[j]? = some v → (V.flatMap Vd.cells)[k * 17 + j]? = some v
  | x :: V, ok, 0, _, j, v, h => by
    have h' : x.cells[j]? = some v := h
    rw [List.flatMap_cons, List.getElem?_append_left (by have := (List.getElem?_eq_some_iff.1 h').1; omega)]
    simpa using h'
  | x :: V, ok, k + 1, hk, j, v, h => by
    have hx := Vd.cells_length (ok x (by simp))
    rw [List.flatMap_cons, List.getElem?_append_right (by omega), hx, show (k + 1) * 17 + j - 17 = k * 17 + j by omega]
    exact flat_get (fun y hy => ok y (by simp [hy])) (by simpa using hk) h
theorem vds_new (w : World) (V : List Vd) (ok : keysOk V) (t : TypeId) : VdsAt (w.alloc (.cells (V.flatMap Vd.cells).toArray t)) (some ⟨w.heap.size, 0, none⟩) V := fun _ =>
  ⟨w.heap.size, 0, rfl, fun k hk j v hv => by
    rw [Nat.zero_add, (Blk.new w t _).cell]; simpa using flat_get ok hk hv⟩
theorem ints_new (w : World) (l : List Int) (t : TypeId) : IntsAt (w.alloc (.cells (l.map (Value.int .i64)).toArray t)) (some ⟨w.heap.size, 0, none⟩) l := fun _ =>
  ⟨_, rfl, fun j hj => by
    have h := (Blk.new w t (l.map (Value.int .i64)).toArray).cell (i := 0 + j)
    rw [Go.WideShapes.add_plain, h]
    simp [List.getElem?_eq_getElem hj]⟩

def key4 (n : Int) : List Int := n :: List.replicate 15 0
def v4 : List Vd := [⟨key4 1, 1⟩, ⟨key4 2, 1⟩, ⟨key4 3, 1⟩, ⟨key4 4, 1⟩]
theorem v4_ok : keysOk v4 := by intro x hx; simp [v4] at hx; rcases hx with rfl | rfl | rfl | rfl <;> rfl
theorem v4_right : rightS v4 = true := by kernel_rfl
theorem v4_q : quorumS v4 = 3 := by kernel_rfl
theorem v4_t : totalS v4 = 4 := by kernel_rfl
theorem v4_e1 : enoughS v4 [0, 2, 3] = true := by kernel_rfl
theorem v4_e2 : enoughS v4 [0, 1] = false := by kernel_rfl

theorem key_run (w : World) (n : Int) : Sem.run Tryz.prog (Instr.build 24 #[(0, .int .u8 n)]) w = .ok (.agg (arrV .u8 (key4 n))) w := by kernel_rfl
theorem vd_run (w : World) (n p : Int) : Sem.run Tryz.prog (Instr.build 41 #[(0, .agg (arrV .u8 (key4 n))), (1, .int .i64 p)]) w = .ok (.agg (Vd.cells ⟨key4 n, p⟩).toArray) w := by kernel_rfl
theorem row4_run (w : World) : Sem.run Tryz.prog (Instr.buildSlice 22 4 #[(0, .agg (Vd.cells ⟨key4 1, 1⟩).toArray), (1, .agg (Vd.cells ⟨key4 2, 1⟩).toArray), (2, .agg (Vd.cells ⟨key4 3, 1⟩).toArray), (3, .agg (Vd.cells ⟨key4 4, 1⟩).toArray)]) w
    = .ok (.slice (some ⟨w.heap.size, 0, none⟩) 4 4) (w.alloc (.cells (v4.flatMap Vd.cells).toArray 41)) := by kernel_rfl
theorem who3_run (w : World) : Sem.run Tryz.prog (Instr.buildSlice 153 3 #[(0, .int .i64 0), (1, .int .i64 2), (2, .int .i64 3)]) w
    = .ok (.slice (some ⟨w.heap.size, 0, none⟩) 3 3) (w.alloc (.cells (([0, 2, 3] : List Int).map (Value.int .i64)).toArray 3)) := by kernel_rfl
theorem who2_run (w : World) : Sem.run Tryz.prog (Instr.buildSlice 153 2 #[(0, .int .i64 0), (1, .int .i64 1)]) w
    = .ok (.slice (some ⟨w.heap.size, 0, none⟩) 2 2) (w.alloc (.cells (([0, 1] : List Int).map (Value.int .i64)).toArray 3)) := by kernel_rfl

end Go.Proofs.YtmoebkdbnldbdaaGreatDoor
/-
  A range over a function whose elements are told with a fact of the memory at hand: the contract of such an iterator, and the law of the statement.
-/

namespace Go.Proofs.YtmoebkdbnldbdaaGreatDoor
open Go.RowKit Go.Shelf

/-- The iterator's contract: a round is asked only where the element's fact holds in the world at hand. -/
def SeqTold {α : Type} (F : Fence) (n : Nat) (P : Program) (gf : Nat) (lb : Array Value) (encs : α → Array Value) (Kp : α → World → World → Prop) (Phi : List α → (World → Prop) → α → World → Prop) (S Sp : List α → Prop) (w0 : World) : Prop :=
  ∀ (l : Nat) (J Jx : List α → World → Prop) (W : World), Below w0.heap.size w0 W → AbidesFrom W.heap.size J → AbidesFrom W.heap.size Jx →
    (∀ pre x V, J pre V → Phi pre (J pre) x V → YieldAt F (n - 1) P l (encs x) V fun e V' => (e = .returned (.bool true) ∧ J (pre ++ [x]) V' ∧ Kp x V V') ∨ (e = .returned (.bool false) ∧ Jx (pre ++ [x]) V')) →
    J [] W → CallsIn F n P gf (#[.func (.yield l) #[] #[]] ++ lb) W fun e V => (∃ v, e = .returned v) ∧ ((∃ xs, S xs ∧ J xs V) ∨ (∃ pre, Sp pre ∧ Jx pre V))

section
variable {α : Type} {F : Fence} {n : Nat} {P : Program} {ps : Array Tmp} {assign body : Code} {a : Act} {w w0 : World}
/-- The record of the loop under way. -/
def recOf (fn : FuncId) (tmps : Array Value) (ps : Array Tmp) (assign body : Code) (B : Nat) (st : LoopState) (pe : Option Code) : Loop := { state := st, pending := pe, fn, tmps, params := ps, assign, body, defers := B }
/-- What the book-keeping says at rest: the record is so, the block for the rounds' deferred calls is empty. -/
def AtRest (fn : FuncId) (tmps : Array Value) (ps : Array Tmp) (assign body : Code) (B : Nat) (st : LoopState) (pe : Option Code) (W : World) : Prop :=
  W.heap[B + 1]? = some (.loop (recOf fn tmps ps assign body B st pe)) ∧ W.heap[B]? = some (.deferred (some []))
theorem AtRest.keeps {fn : FuncId} {tmps : Array Value} {B : Nat} {st : LoopState} {pe : Option Code} {V W : World} (h : AtRest fn tmps ps assign body B st pe V) (k : KeepsFrom B V W) : AtRest fn tmps ps assign body B st pe W :=
  ⟨k.same _ _ (Nat.le_succ B) h.1 rfl, k.same _ _ (Nat.le_refl B) h.2 rfl⟩
theorem AtRest.turn {fn : FuncId} {tmps : Array Value} {B : Nat} {st st' : LoopState} {pe pe' : Option Code} {W : World} (h : AtRest fn tmps ps assign body B st pe W) : AtRest fn tmps ps assign body B st' pe' (W.putObj (B + 1) (.loop (recOf fn tmps ps assign body B st' pe'))) :=
  ⟨World.putObj_heap_same (Array.getElem?_eq_some_iff.1 h.1).1, (World.putObj_heap_other (by omega)).trans h.2⟩
theorem AtRest.abides {fn : FuncId} {tmps : Array Value} {B D : Nat} {st : LoopState} {pe : Option Code} {V W : World} {row : Option Nat} (h : AtRest fn tmps ps assign body B st pe V) (hg : V.grownBy W row) (hr : ∀ r, row = some r → D ≤ r ∧ ∃ o : Obj, V.heap[r]? = some o ∧ o.isWalk = true) : AtRest fn tmps ps assign body B st pe W :=
  ⟨(grownBy_keeps hg (fun r e => (hr r e).2) h.1 rfl).trans h.1, (grownBy_keeps hg (fun r e => (hr r e).2) h.2 rfl).trans h.2⟩

theorem wpIn_rangeFunc_told {g : Operand} {Q : Exit → Act → World → Prop}
    (hro : F.round = none) (h1 : 1 ≤ n) {gf : Nat} {lb : Array Value} (hg : a.eval g = .func (.func gf) #[] lb) (hFg : F.fn gf) (eg : ∀ args w, (callFunc gf args).run P w = .ok (.enter gf args) w)
    {encs : α → Array Value} {Kp : α → World → World → Prop} {Phi : List α → (World → Prop) → α → World → Prop} {S Sp : List α → Prop} (hseq : SeqTold F (n - 1) P gf lb encs Kp Phi S Sp w0)
    (hKt : ∀ {x : α} {A B C : World}, Kp x A B → Kp x B C → Kp x A C) (hKb : ∀ (x : α) (W : World) (l : Nat) (o o' : Obj), w.heap.size ≤ l → W.heap[l]? = some o → o.isCells = false → o.isWalk = false → Kp x W (W.putObj l o')) (hPhi : ∀ pre (p q : World → Prop) x V, (∀ U, p U → q U) → Phi pre p x V → Phi pre q x V) (hb0 : Below w0.heap.size w0 w) (hps : ∀ x, (encs x).size = ps.size)
    (I : List α → World → Prop) (Ix : Code → List α → World → Prop) (hI : OwnFrom w.heap.size I) (hIx : ∀ c, OwnFrom w.heap.size (Ix c)) (h0 : I [] w)
    (Ax : List α → α → Act → World → Prop) (hAx : ∀ pre x a', OwnFrom w.heap.size (fun (_ : Unit) W => Ax pre x a' W))
    (hassign : ∀ (l : Nat) (pre : List α) (x : α) (W : World) (K : Act → World → Prop), I pre W → Phi pre (I pre) x W → (∀ a' W', KeepsFrom w.heap.size W W' → Kp x W W' → I pre W' → Ax pre x a' W' → K a' W') →
      assign.wpIn (F.inRound l) (n - 1 - 1) P (Exit.then K (fun _ _ _ => False)) { tmps := (ps.zip (encs x)).foldl (fun t (p, v) => t.setIfInBounds p v) a.tmps, defers := [] } W)
    (hbody : ∀ (l : Nat) (pre : List α) (x : α) (a' : Act) (W : World), w.heap.size ≤ l → (∃ r, W.heap[l]? = some (.loop r)) → I pre W → Ax pre x a' W → body.wpIn (F.inRound l) (n - 1 - 1) P (ownPostG w.heap.size (Kp x) I Ix (pre ++ [x]) W) a' W)
    (hdone : ∀ (D : Nat) (xs : List α) (W : World), w.heap.size ≤ D → S xs → I xs W → W.heap[D]? = some (.deferred (some [])) → Q .normal { a with defers := { target := .collected D, args := #[] } :: a.defers } W)
    (hstop : ∀ (D : Nat) (c : Code) (pre : List α) (W : World), w.heap.size ≤ D → Sp pre → Ix c pre W → W.heap[D]? = some (.deferred (some [])) → c.wpIn F n P Q { a with defers := { target := .collected D, args := #[] } :: a.defers } W) :
    (Code.rangeFunc g ps assign body).wpIn F n P Q a w := by
  refine wpIn_rangeFunc fun fn hfn => ?_
  rw [hro]
  have hnew : AtRest fn a.tmps ps assign body w.heap.size .ready none ((w.alloc (.deferred (some []))).alloc (.loop (recOf fn a.tmps ps assign body w.heap.size .ready none))) := by
    have h2 := World.alloc_heap_new (w.alloc (.deferred (some []))) (.loop (recOf fn a.tmps ps assign body w.heap.size .ready none))
    rw [World.size_alloc] at h2
    exact ⟨h2, (Below.heap_alloc _ _ _ (by simp)).trans (World.alloc_heap_new w _)⟩
  have hsz : w.heap.size + 2 = ((w.alloc (.deferred (some []))).alloc (.loop (recOf fn a.tmps ps assign body w.heap.size .ready none))).heap.size := by simp
  have hI1 : I [] ((w.alloc (.deferred (some []))).alloc (.loop (recOf fn a.tmps ps assign body w.heap.size .ready none))) := hI.alloc _ (hI.alloc _ h0)
  have hb1 : Below w0.heap.size w0 ((w.alloc (.deferred (some []))).alloc (.loop (recOf fn a.tmps ps assign body w.heap.size .ready none))) :=
    hb0.trans ((((Below.refl _ w).alloc (Nat.le_refl _) _).alloc (by simp) _).mono hb0.size)
  have hen : (Instr.enterLoop fn a.tmps ps assign body none).run P w = .ok (w.heap.size + 1, [{ target := .collected w.heap.size, args := #[] }]) ((w.alloc (.deferred (some []))).alloc (.loop (recOf fn a.tmps ps assign body w.heap.size .ready none))) := run_enterLoop_outer _ _ _ _ _
  generalize (w.alloc (.deferred (some []))).alloc (.loop (recOf fn a.tmps ps assign body w.heap.size .ready none)) = W1 at *
  refine ⟨w.heap.size + 1, [{ target := .collected w.heap.size, args := #[] }], W1, { target := .fn (.func gf) lb, args := #[.func (.yield (w.heap.size + 1)) #[] #[]] }, W1, gf,
    #[.func (.yield (w.heap.size + 1)) #[] #[]] ++ lb, W1, hen, ?_, ?_, ?_, fun _ => h1, ?_⟩
  · simp only [resolve, hg]; simp [go_sem]
  · intro f' hf'; simp [Target.leads] at hf'; subst hf'; exact hFg
  · simp [invoke, go_sem, eg]
  have hcells : ∀ {A : World} {row : Option Nat}, (∀ r, row = some r → W1.heap.size ≤ r ∧ ∃ o : Obj, A.heap[r]? = some o ∧ o.isWalk = true) → (∀ r, row = some r → w.heap.size ≤ r ∧ ∃ o : Obj, A.heap[r]? = some o ∧ o.isCells = false) := fun hr r e => by
    obtain ⟨hB, o, ho, hw⟩ := hr r e
    exact ⟨by omega, o, ho, Obj.not_cells_of_walk hw⟩
  refine (hseq (w.heap.size + 1) (fun pre W => I pre W ∧ AtRest fn a.tmps ps assign body w.heap.size .ready none W) (fun pre W => ∃ c, Ix c pre W ∧ AtRest fn a.tmps ps assign body w.heap.size .done (some c) W) W1 hb1
    (fun s A B row hs hg' hr => ⟨hI s A B row hs.1 hg' (hcells hr), hs.2.abides hg' hr⟩)
    (fun s A B row hs hg' hr => by obtain ⟨c, hc, hk⟩ := hs; exact ⟨c, hIx c s A B row hc hg' (hcells hr), hk.abides hg' hr⟩) ?_ ⟨hI1, hnew⟩).mono ?_
  · rintro pre x V ⟨hi, hat⟩ hphi
    refine ⟨fn, _, assign, body, run_yield hat.1 (hps x), roundIn_of_wpIn hfn (hassign _ pre x V _ hi (hPhi _ _ _ _ _ (fun _ h => h.1) hphi) fun a' W hk1 hkp1 hi1 hax => ?_)⟩
    have hat1 := hat.keeps hk1
    have hlt := (Array.getElem?_eq_some_iff.1 hat1.1).1
    refine ⟨_, run_beginRound hat1.1 rfl, ?_⟩
    have hat2 : AtRest fn a.tmps ps assign body w.heap.size .busy none (W.putObj (w.heap.size + 1) (.loop (recOf fn a.tmps ps assign body w.heap.size .busy none))) := hat1.turn
    have hkp2 := hKb x W (w.heap.size + 1) _ (.loop (recOf fn a.tmps ps assign body w.heap.size .busy none)) (Nat.le_succ _) hat1.1 rfl rfl
    refine wpIn_mono (hbody _ pre x a' _ (Nat.le_succ _) ⟨_, hat2.1⟩ (hI.putObj _ hi1 (Nat.le_succ _) hat1.1 rfl) ((hAx pre x a').putObj (s := ()) _ hax (Nat.le_succ _) hat1.1 rfl)) ?_
    rintro e a3 W3 hp
    cases e with
    | normal =>
      obtain ⟨hk3, hkp3, hi3⟩ := hp
      have hat3 := hat2.keeps hk3
      exact ⟨_, _, run_endRound none hat3.1, .inl ⟨rfl, ⟨hI.putObj _ hi3 (Nat.le_succ _) hat3.1 rfl, hat3.turn (st' := .ready) (pe' := none)⟩, hKt hkp1 (hKt (hKt hkp2 hkp3) (hKb _ _ _ _ _ (Nat.le_succ _) hat3.1 rfl rfl))⟩⟩
    | ret =>
      obtain ⟨hk3, hi3⟩ := hp
      have hat3 := hat2.keeps hk3
      exact ⟨_, _, run_endRound (some .ret) hat3.1, .inr ⟨rfl, .ret, (hIx _).putObj _ hi3 (Nat.le_succ _) hat3.1 rfl, hat3.turn (st' := .done) (pe' := some .ret)⟩⟩
    | exit id =>
      obtain ⟨hk3, hi3⟩ := hp
      have hat3 := hat2.keeps hk3
      exact ⟨_, _, run_endRound (some (.exit id)) hat3.1, .inr ⟨rfl, .exit id, (hIx _).putObj _ hi3 (Nat.le_succ _) hat3.1 rfl, hat3.turn (st' := .done) (pe' := some (.exit id))⟩⟩
    | goto t =>
      obtain ⟨hk3, hi3⟩ := hp
      have hat3 := hat2.keeps hk3
      exact ⟨_, _, run_endRound (some (.goto t)) hat3.1, .inr ⟨rfl, .goto t, (hIx _).putObj _ hi3 (Nat.le_succ _) hat3.1 rfl, hat3.turn (st' := .done) (pe' := some (.goto t))⟩⟩
    | panic ch => exact hp.elim
    | outgrown => exact hp.elim
  · rintro e W2 ⟨⟨v, rfl⟩, (⟨xs, hS, hi, hat⟩ | ⟨pre, hSp, c, hi, hat⟩)⟩
    · exact ⟨none, _, run_endLoop hat.1 (by simp [recOf]), hdone _ xs _ (Nat.le_refl _) hS (hI.putObj _ hi (Nat.le_succ _) hat.1 rfl) ((World.putObj_heap_other (by omega)).trans hat.2)⟩
    · exact ⟨some c, _, run_endLoop hat.1 (by simp [recOf]), hstop _ c pre _ (Nat.le_refl _) hSp ((hIx c).putObj _ hi (Nat.le_succ _) hat.1 rfl) ((World.putObj_heap_other (by omega)).trans hat.2)⟩
end
end Go.Proofs.YtmoebkdbnldbdaaGreatDoor
/-
  A region that draws its order and holds calls which only make new memory: one walk in the order of the text serves every order. The class of worlds: those that have grown from the one at the region's head.
-/
namespace Go.Proofs.YtmoebkdbnldbdaaGreatDoor
open Go.RowKit

def Gr (w : World) : Type := { z : World // w.grownBy z none }
instance (w : World) : Nonempty (Gr w) := ⟨⟨w, World.grownBy.refl w none⟩⟩
theorem Gr.cell {w : World} {a : Addr} {v : Value} (h : w.cell? a = some v) : ∀ z : Gr w, z.1.cell? a = some v := fun z => z.2.cell h (by simp)
theorem wp_region_grown {P : Program} {id : Nat} {Q : Exit → Act → World → Prop} {a : Act} {w : World} {l : List Oper} (hm : P.follows .mixedOrders = true) (hB : Region.lexB .any l.toArray = true)
    (h : wpQuiet P l.toArray (fun w' => ∃ z : Gr w, w' = z.1) (fun a' => ∀ w', (∃ z : Gr w, w' = z.1) → Q .normal a' w') l a) : (Code.region id l.toArray true).wp P Q a w :=
  wp_region_quiet (C := fun w' => ∃ z : Gr w, w' = z.1) hm hB ⟨⟨w.drew, grown_drew (World.grownBy.refl w none)⟩, rfl⟩ (by simpa using h)
theorem Calls.grown {P : Program} {f : FuncId} {args : Array Value} {w : World} (z : Gr w) {v : Value} (h : Calls P f args z.1 fun e w' => e = .returned v ∧ z.1.grownBy w' none) :
    Calls P f args z.1 fun e w'' => e = .returned v ∧ ∃ z' : Gr w, w'' = z'.1 :=
  h.mono fun _ w' ⟨he, hk⟩ => ⟨he, ⟨w', grown_trans z.2 hk⟩, rfl⟩
/-- A row by value, in such a region: its value in every world of the class. -/
theorem wpQuiet_load_row {P : Program} {ops : Array Oper} {C : World → Prop} {Q : Act → Prop} {a : Act} {o : Oper} {rest : List Oper} (ty : TypeId) (x : Operand) (p : Addr) (v : Value) (hw : Region.wanted o (yielded ops a.tmps) = true) (ho : o.op = .load ty x) (hx : a.eval x = .pointer (some p))
    (hr : ∀ V, C V → (Instr.loadAt ty (.pointer (some p))).run P V = .ok v V) (h : wpQuiet P ops C Q rest (a.put o.dst v)) : wpQuiet P ops C Q (o :: rest) a := by
  refine wpQuiet_step fun K hK => ?_
  rw [if_pos hw]
  refine ⟨v, fun w hC => ?_, hK _ h⟩
  unfold Oper.quietAt execOp
  simp only [ho, hx, Sem.run_bind, hr w hC, Result.andThen_ok, Sem.run_pure]
  exact ⟨rfl, rfl⟩
end Go.Proofs.YtmoebkdbnldbdaaGreatDoor
/-
  What the walks share, of no package.
-/
namespace Go.Proofs.YtmoebkdbnldbdaaGreatDoor
open Go.RowKit Go.Shelf

theorem Kept.next {F G : Nat → Prop} {a b c : World} (h : Kept F a b) (k : Kept G b c) (hF : ∀ k, k < a.heap.size → G k → F k) : Kept F a c :=
  ⟨k.os.trans h.os, k.tape.trans h.tape, k.output.trans h.output, Nat.le_trans h.size k.size, fun i hi hn => (k.block i (Nat.lt_of_lt_of_le hi h.size) (fun hg => hn (hF i hi hg))).trans (h.block i hi hn)⟩

theorem own_cell {w : World} {base : Nat} {e : TypeId} {n g c : Nat} {cells : List Value} (h : w.ownsRow base e 1 (.slice (some ⟨g, 0, none⟩) n c) n cells) {j : Nat} {u : Value} (hj : cells[j]? = some u) : w.cell? ⟨g, j, none⟩ = some u := by
  have h3 := h.cells (g := g) rfl j u hj
  rwa [Go.WideShapes.add_plain, Nat.zero_add] at h3
/-- The block of a slice's address. -/
def atB (A : Option Addr) : Nat → Prop := fun j => ∃ a, A = some a ∧ a.block = j
theorem wpListIn_push_one {F : Fence} {m : Nat} {P : Program} (w : World) {ops : Array Oper} {rest : List Oper} {o : Oper} {a : Act} {Q : Exit → Act → World → Prop}
    (hg : o.guard = none) (s x : Operand) (t : TypeId) (ho : o.op = Op.call { callee := Callee.builtin Builtin.append, args := #[s, x], argTypes := #[t, t] })
    (base : Nat) (e : TypeId) (i : TypeInfo) (z : Value) (bytes : Nat) (ht : P.underlying t = some (.slice e)) (hi : P.info? e = some i) (hz : i.zero = some z) (hsize : i.size = 1) (hby : i.bytes = bytes) (hzs : z.cells.size = 1)
    (v : Value) (n : Nat) (xs : List Value) (hs : a.eval s = v) (hown : w.ownsRow base e 1 v n xs) (ad : Addr) (c : Nat) (u : Value) (hx : a.eval x = .slice (some ad) 1 c) (hcell : w.cell? ad = some u) (hu : u.oneCell' = true) (h63 : n + 1 ≤ 1000000000) (hb : bytes ≤ 100) (hbase : base ≤ w.heap.size)
    (h : ∀ A' cap' w', w'.ownsRow base e 1 (.slice A' (n + 1) cap') (n + 1) (xs ++ [u]) → w.grownBy w' v.ownBlock → ((Value.slice A' (n + 1) cap').ownBlock = v.ownBlock ∨ (Value.slice A' (n + 1) cap').ownBlock = some w.heap.size) → wpListIn F m P ops Q rest (a.put o.dst (.slice A' (n + 1) cap')) w') : wpListIn F m P ops Q (o :: rest) a w := by
  have hcells : ∀ j v, [u][j]? = some v → w.cell? (ad.add j) = some v := by
    intro j v hv
    rcases j with _ | j
    · simp at hv; subst hv; simpa [Addr.add] using hcell
    · simp at hv
  obtain ⟨v', w', hrun, h2, h3, _, h5⟩ := run_append_own_at (P := P) w base t o.type e i z 1 bytes ht hi hz hsize hby hzs (by omega) v n xs hown ad 1 c [u] (by simp) hcells (by intro v hv; simp at hv; subst hv; exact hu) (by unfold maxLen; omega)
    (Nat.le_trans (Nat.mul_le_mul h63 hb) (by omega)) hbase
  obtain ⟨A', cap', rfl⟩ := own_slice w' h2
  refine wpListIn_plain hg fun K hK' => ?_
  unfold Oper.wpIn
  refine ⟨?_, ?_⟩
  · simp [Oper.about, ho, resolve, Target.leads, Sem.run_pure]
  · rw [Oper.semAt_plain F _ _ (by rw [ho]; intro c hc'; cases hc')]
    simp [execOp, ho, resolve, invoke, builtin, hs, hx, hrun, Result.andThen]
    exact hK' _ _ (h A' cap' w' h2 h3 h5)
theorem own_at {A : Option Addr} {n c k : Nat} (h : (Value.slice A n c).ownBlock = some k) : ∃ a, A = some a ∧ a.block = k := by
  rcases A with _ | a
  · simp [Value.ownBlock] at h
  · exact ⟨a, rfl, by simpa [Value.ownBlock] using h⟩
theorem keepsOwn {W W' : World} {base size n : Nat} {e : TypeId} {v : Value} {xs : List Value} (h : W.ownsRow base e size v n xs) (hg : W.grownBy W' v.ownBlock) : KeepsOthers W W' := KeepsOthers.of_grownBy hg (fun j o ej ho => by
  rcases h.2 with ⟨rfl, _⟩ | ⟨g, cap, cur, rfl, _, hh, _⟩
  · simp [Value.ownBlock] at ej
  · have : g = j := by simpa [Value.ownBlock] using ej
    subst this
    rw [hh] at ho
    obtain rfl := Option.some.inj ho
    rfl)
theorem own_same {W W' : World} {base size n : Nat} {e : TypeId} {v : Value} {xs : List Value} (h : W.ownsRow base e size v n xs) (same : ∀ (b : Nat) (o : Obj), W.heap[b]? = some o → o.isCells = true → W'.heap[b]? = some o) : W'.ownsRow base e size v n xs := by
  refine ⟨h.1, ?_⟩
  rcases h.2 with h | ⟨g, cap, cur, hv, hb, hh, r⟩
  · exact .inl h
  · exact .inr ⟨g, cap, cur, hv, hb, same g _ hh rfl, r⟩
theorem cells_same {W W' : World} {row : Option Nat} (hg : W.grownBy W' row) (hr : ∀ r, row = some r → ∃ o : Obj, W.heap[r]? = some o ∧ o.isCells = false) : ∀ (b : Nat) (o : Obj), W.heap[b]? = some o → o.isCells = true → W'.heap[b]? = some o := fun b o ho hc =>
  (hg.block b (Array.getElem?_eq_some_iff.1 ho).1 (fun e => by
    obtain ⟨o', h1, h2⟩ := hr b e.symm
    rw [ho] at h1
    injection h1 with h1
    subst h1
    rw [hc] at h2
    cases h2)).trans ho
/-- Blocks of cells from lo up to hi stay. -/
def Still (lo hi : Nat) (A B : World) : Prop := A.heap.size ≤ B.heap.size ∧ ∀ b o, lo ≤ b → b < hi → A.heap[b]? = some o → o.isCells = true → B.heap[b]? = some o
section
variable {A B C : World} {lo hi : Nat}
theorem Still.refl (lo hi : Nat) (A : World) : Still lo hi A A := ⟨Nat.le_refl _, fun _ _ _ _ h _ => h⟩
theorem Still.trans (h : Still lo hi A B) (k : Still lo hi B C) : Still lo hi A C := ⟨Nat.le_trans h.1 k.1, fun b o h1 h2 h3 h4 => k.2 b o h1 h2 (h.2 b o h1 h2 h3 h4) h4⟩
theorem Still.of_kept {F : Nat → Prop} (h : Kept F A B) (hF : ∀ k, F k → ¬ (lo ≤ k ∧ k < hi)) : Still lo hi A B :=
  ⟨h.size, fun b o h1 h2 h3 _ => (h.block b (Array.getElem?_eq_some_iff.1 h3).1 (fun hf => hF b hf ⟨h1, h2⟩)).trans h3⟩
theorem Still.put {l : Nat} {o o' : Obj} (ho : A.heap[l]? = some o) (hc : o.isCells = false) : Still lo hi A (A.putObj l o') :=
  ⟨(grownBy_putObj' A l o').size, fun b q _ _ hq hqc => ((grownBy_putObj' A l o').block b (Array.getElem?_eq_some_iff.1 hq).1 (fun e => by
    have := Option.some.inj e
    subst this
    rw [ho] at hq
    cases hq
    rw [hc] at hqc
    cases hqc)).trans hq⟩
end
theorem ownFrom_ax {B base : Nat} (p : Nat → Prop) (t : TypeId) (cs : Array Value) : OwnFrom B (fun (_ : Unit) W => ∃ g, base ≤ g ∧ p g ∧ Blk W g t cs) := fun _ _ _ _ hs hg hr => by
  obtain ⟨g, h1, h2, h3⟩ := hs
  exact ⟨g, h1, h2, (grownBy_keeps_cells hg (fun r e => (hr r e).2) h3 rfl).trans h3⟩
theorem addr_zero_add (b j : Nat) : (⟨b, 0, none⟩ : Addr).add j = ⟨b, j, none⟩ := by
  have h : ∀ o, (⟨b, o, none⟩ : Addr).add j = ⟨b, o + j, none⟩ := fun o => by simp [Addr.add]
  have := h 0
  rwa [Nat.zero_add] at this
theorem int_info : (Tryz.prog.info? 3).map (fun i => (i.zero, i.size, i.bytes)) = some (some (.int .i64 0), 1, 8) := by kernel_rfl
theorem own_ints {w : World} {base : Nat} {e : TypeId} {n : Nat} {v : Value} {L : List Int} (h : w.ownsRow base e 1 v n (L.map (Value.int .i64))) : ∃ A cap, v = .slice A L.length cap ∧ L.length ≤ cap ∧ IntsAt w A L := by
  have hl : L.length = n := by have := h.1; simpa using this
  subst hl
  rcases h.2 with ⟨hv, h0⟩ | ⟨g, cap, cur, rfl, hb, hg, hnc, _, hsz, htake⟩
  · obtain rfl : L = [] := List.length_eq_zero_iff.1 h0
    exact ⟨none, 0, hv, Nat.le_refl _, fun h => absurd rfl h⟩
  · refine ⟨_, cap, rfl, hnc, fun _ => ⟨_, rfl, fun j hj => ?_⟩⟩
    rw [addr_zero_add, Joins.cell_of_block hg j, ← Array.getElem?_toList]
    have e1 : (cur.toList.take (L.length * 1))[j]? = cur.toList[j]? := by rw [List.getElem?_take, if_pos (by omega)]
    rw [← e1, htake]
    simp [List.getElem?_eq_getElem hj]
theorem flat3 {α : Type} (f : α → List Value) (hf : ∀ x, (f x).length = 3) : ∀ (W : List α) (k : Nat) (hk : k < W.length) (j : Nat), j < 3 → (W.flatMap f)[k * 3 + j]? = (f W[k])[j]?
  | [], _, hk, _, _ => by simp at hk
  | x :: W, 0, _, j, hj => by rw [List.flatMap_cons, Nat.zero_mul, Nat.zero_add, List.getElem?_append_left (by rw [hf]; exact hj)]; rfl
  | x :: W, k + 1, hk, j, hj => by
    rw [List.flatMap_cons, List.getElem?_append_right (by rw [hf]; omega), hf, show (k + 1) * 3 + j - 3 = k * 3 + j by omega, flat3 f hf W k (by simpa using hk) j hj]
    simp
theorem flat3_set {α : Type} (f : α → List Value) (hf : ∀ x, (f x).length = 3) : ∀ (W : List α) (k : Nat) (_ : k < W.length) (x : α), ((W.set k x).flatMap f) = (((W.flatMap f).set (k * 3) ((f x).getD 0 undef)).set (k * 3 + 1) ((f x).getD 1 undef)).set (k * 3 + 2) ((f x).getD 2 undef)
  | [], _, hk, _ => by simp at hk
  | y :: W, 0, _, x => by
    have h1 := hf x
    have h2 := hf y
    match hx : f x, hy : f y, h1, h2 with
    | [a, b, c], [a', b', c'], _, _ => simp [hx, hy]
  | y :: W, k + 1, hk, x => by
    have h2 := hf y
    rw [List.set_cons_succ, List.flatMap_cons, List.flatMap_cons, flat3_set f hf W k (by simpa using hk) x]
    rw [List.set_append_right _ _ (by rw [h2]; omega), List.set_append_right _ _ (by rw [h2]; omega), List.set_append_right _ _ (by rw [h2]; omega)]
    rw [h2, show (k + 1) * 3 - 3 = k * 3 by omega, show (k + 1) * 3 + 1 - 3 = k * 3 + 1 by omega, show (k + 1) * 3 + 2 - 3 = k * 3 + 2 by omega]
theorem flat3_length {α : Type} (f : α → List Value) (hf : ∀ x, (f x).length = 3) : ∀ W : List α, (W.flatMap f).length = W.length * 3
  | [] => rfl
  | x :: W => by rw [List.flatMap_cons, List.length_append, hf, flat3_length f hf W, List.length_cons]; omega
theorem results_tmp2 {fn : Func} {s u : Tmp} (h : fn.results = #[.tmp s, .tmp u]) (tmps : Array Value) (P : Program) (w : World) : (results fn tmps).run P w = .ok (.tuple #[tmps.getD s undef, tmps.getD u undef]) w := by
  simp [results, h]

end Go.Proofs.YtmoebkdbnldbdaaGreatDoor
