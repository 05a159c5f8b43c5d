/-
  Several texts in one: PwLb, Rt.
-/
import Derived.Great.BuildSlice
import Derived.Test.YtpdfkgmgmndcfaaGreatDoorM20H
import Derived.Test.YtpdfkgmgmndcfaaGreatDoorM20q
/-
  Rows of validators and of numbers that the code lays.
-/
namespace Go.Proofs.YtpdfkgmgmndcfaaGreatDoor
open Go.RowKit

section
variable {P : Program} {w : World} {ops : Array Oper} {rest : List Oper} {o : Oper} {a : Act} {Q : Exit → Act → World → Prop}
theorem wpList_build_at (hw : Region.wanted o (yielded ops a.tmps) = true) (t : TypeId) (parts : Array (Nat × Operand)) (ho : o.op = .build t parts) (ps : Array (Nat × Value)) (hp : (parts.map fun (i, x) => (i, a.eval x)) = ps) (V : Value)
    (hr : Sem.run P (Instr.build t ps) w = .ok V w) (h : wpList P ops Q rest (a.put o.dst V) w) : wpList P ops Q (o :: rest) a w :=
  BigFrame.wpList_want hw fun _ hK => by
    unfold Oper.wp execOp
    simp only [ho, hp, Sem.run_bind, hr, Result.andThen_ok, Sem.run_pure]
    exact hK _ _ h
theorem wpList_row_at (hw : Region.wanted o (yielded ops a.tmps) = true) (t : TypeId) (len : Nat) (parts : Array (Nat × Operand)) (ho : o.op = .buildSlice t len parts) (ps : Array (Nat × Value)) (hp : (parts.map fun (i, x) => (i, a.eval x)) = ps) (V : Value) (W : World)
    (hr : Sem.run P (Instr.buildSlice t len ps) w = .ok V W) (h : wpList P ops Q rest (a.put o.dst V) W) : wpList P ops Q (o :: rest) a w :=
  BigFrame.wpList_want hw fun _ hK => by
    unfold Oper.wp execOp
    simp only [ho, hp, Sem.run_bind, hr, Result.andThen_ok, Sem.run_pure]
    exact hK _ _ h
end

theorem flat_get : ∀ {V : List Vd} (_ : keysOk V) {k : Nat} (hk : k < V.length) {j : Nat} {v : Value}, V[k].cells[j]? = some v → (V.flatMap Vd.cells)[k * 17 + j]? = some v
  | x :: V, ok, 0, _, j, v, h => by
    have h' : x.cells[j]? = some v := h
    rw [List.flatMap_cons, List.getElem?_append_left (by have := (List.getElem?_eq_some_iff.1 h').1; omega)]
    simpa using h'
  | x :: V, ok, k + 1, hk, j, v, h => by
    have hx := Vd.cells_length (ok x (by simp))
    rw [List.flatMap_cons, List.getElem?_append_right (by omega), hx, show (k + 1) * 17 + j - 17 = k * 17 + j by omega]
    exact flat_get (fun y hy => ok y (by simp [hy])) (by simpa using hk) h
theorem vds_new (w : World) (V : List Vd) (ok : keysOk V) (t : TypeId) : VdsAt (w.alloc (.cells (V.flatMap Vd.cells).toArray t)) (some ⟨w.heap.size, 0, none⟩) V := fun _ =>
  ⟨w.heap.size, 0, rfl, fun k hk j v hv => by
    rw [Nat.zero_add, (Blk.new w t _).cell]; simpa using flat_get ok hk hv⟩
theorem ints_new (w : World) (l : List Int) (t : TypeId) : IntsAt (w.alloc (.cells (l.map (Value.int .i64)).toArray t)) (some ⟨w.heap.size, 0, none⟩) l := fun _ =>
  ⟨_, rfl, fun j hj => by
    have h := (Blk.new w t (l.map (Value.int .i64)).toArray).cell (i := 0 + j)
    rw [Go.WideShapes.add_plain, h]
    simp [List.getElem?_eq_getElem hj]⟩

def key4 (n : Int) : List Int := n :: List.replicate 15 0
def v4 : List Vd := [⟨key4 1, 1⟩, ⟨key4 2, 1⟩, ⟨key4 3, 1⟩, ⟨key4 4, 1⟩]
theorem v4_ok : keysOk v4 := by intro x hx; simp [v4] at hx; rcases hx with rfl | rfl | rfl | rfl <;> rfl
theorem v4_right : rightS v4 = true := by kernel_rfl
theorem v4_q : quorumS v4 = 3 := by kernel_rfl
theorem v4_t : totalS v4 = 4 := by kernel_rfl
theorem v4_e1 : enoughS v4 [0, 2, 3] = true := by kernel_rfl
theorem v4_e2 : enoughS v4 [0, 1] = false := by kernel_rfl

theorem key_run (w : World) (n : Int) : Sem.run Tryz.prog (Instr.build 24 #[(0, .int .u8 n)]) w = .ok (.agg (arrV .u8 (key4 n))) w := by kernel_rfl
theorem vd_run (w : World) (n p : Int) : Sem.run Tryz.prog (Instr.build 50 #[(0, .agg (arrV .u8 (key4 n))), (1, .int .i64 p)]) w = .ok (.agg (Vd.cells ⟨key4 n, p⟩).toArray) w := by kernel_rfl
theorem row4_run (w : World) : Sem.run Tryz.prog (Instr.buildSlice 22 4 #[(0, .agg (Vd.cells ⟨key4 1, 1⟩).toArray), (1, .agg (Vd.cells ⟨key4 2, 1⟩).toArray), (2, .agg (Vd.cells ⟨key4 3, 1⟩).toArray), (3, .agg (Vd.cells ⟨key4 4, 1⟩).toArray)]) w
    = .ok (.slice (some ⟨w.heap.size, 0, none⟩) 4 4) (w.alloc (.cells (v4.flatMap Vd.cells).toArray 50)) := by kernel_rfl
end Go.Proofs.YtpdfkgmgmndcfaaGreatDoor
/-
  A range over a function whose elements are told with a fact of the memory at hand: the contract of such an iterator, and the law of the statement.
-/

namespace Go.Proofs.YtpdfkgmgmndcfaaGreatDoor
open Go.RowKit Go.Shelf

/-- The iterator's contract: a round is asked only where the element's fact holds in the world at hand. -/
def SeqTold {α : Type} (F : Fence) (n : Nat) (P : Program) (gf : Nat) (lb : Array Value) (encs : α → Array Value) (Kp : α → World → World → Prop) (Phi : List α → (World → Prop) → α → World → Prop) (S Sp : List α → Prop) (w0 : World) : Prop :=
  ∀ (l : Nat) (J Jx : List α → World → Prop) (W : World), Below w0.heap.size w0 W → AbidesFrom W.heap.size J → AbidesFrom W.heap.size Jx →
    (∀ pre x V, J pre V → Phi pre (J pre) x V → YieldAt F (n - 1) P l (encs x) V fun e V' => (e = .returned (.bool true) ∧ J (pre ++ [x]) V' ∧ Kp x V V') ∨ (e = .returned (.bool false) ∧ Jx (pre ++ [x]) V')) →
    J [] W → CallsIn F n P gf (#[.func (.yield l) #[] #[]] ++ lb) W fun e V => (∃ v, e = .returned v) ∧ ((∃ xs, S xs ∧ J xs V) ∨ (∃ pre, Sp pre ∧ Jx pre V))

section
variable {α : Type} {F : Fence} {n : Nat} {P : Program} {ps : Array Tmp} {assign body : Code} {a : Act} {w w0 : World}
/-- The record of the loop under way. -/
def recOf (fn : FuncId) (tmps : Array Value) (ps : Array Tmp) (assign body : Code) (B : Nat) (st : LoopState) (pe : Option Code) : Loop := { state := st, pending := pe, fn, tmps, params := ps, assign, body, defers := B }
/-- What the book-keeping says at rest: the record is so, the block for the rounds' deferred calls is empty. -/
def AtRest (fn : FuncId) (tmps : Array Value) (ps : Array Tmp) (assign body : Code) (B : Nat) (st : LoopState) (pe : Option Code) (W : World) : Prop :=
  W.heap[B + 1]? = some (.loop (recOf fn tmps ps assign body B st pe)) ∧ W.heap[B]? = some (.deferred (some []))
theorem AtRest.keeps {fn : FuncId} {tmps : Array Value} {B : Nat} {st : LoopState} {pe : Option Code} {V W : World} (h : AtRest fn tmps ps assign body B st pe V) (k : KeepsFrom B V W) : AtRest fn tmps ps assign body B st pe W :=
  ⟨k.same _ _ (Nat.le_succ B) h.1 rfl, k.same _ _ (Nat.le_refl B) h.2 rfl⟩
theorem AtRest.turn {fn : FuncId} {tmps : Array Value} {B : Nat} {st st' : LoopState} {pe pe' : Option Code} {W : World} (h : AtRest fn tmps ps assign body B st pe W) : AtRest fn tmps ps assign body B st' pe' (W.putObj (B + 1) (.loop (recOf fn tmps ps assign body B st' pe'))) :=
  ⟨World.putObj_heap_same (Array.getElem?_eq_some_iff.1 h.1).1, (World.putObj_heap_other (by omega)).trans h.2⟩
theorem AtRest.abides {fn : FuncId} {tmps : Array Value} {B D : Nat} {st : LoopState} {pe : Option Code} {V W : World} {row : Option Nat} (h : AtRest fn tmps ps assign body B st pe V) (hg : V.grownBy W row) (hr : ∀ r, row = some r → D ≤ r ∧ ∃ o : Obj, V.heap[r]? = some o ∧ o.isWalk = true) : AtRest fn tmps ps assign body B st pe W :=
  ⟨(grownBy_keeps hg (fun r e => (hr r e).2) h.1 rfl).trans h.1, (grownBy_keeps hg (fun r e => (hr r e).2) h.2 rfl).trans h.2⟩

theorem wpIn_rangeFunc_told {g : Operand} {Q : Exit → Act → World → Prop}
    (hro : F.round = none) (h1 : 1 ≤ n) {gf : Nat} {lb : Array Value} (hg : a.eval g = .func (.func gf) #[] lb) (hFg : F.fn gf) (eg : ∀ args w, (callFunc gf args).run P w = .ok (.enter gf args) w)
    {encs : α → Array Value} {Kp : α → World → World → Prop} {Phi : List α → (World → Prop) → α → World → Prop} {S Sp : List α → Prop} (hseq : SeqTold F (n - 1) P gf lb encs Kp Phi S Sp w0)
    (hKt : ∀ {x : α} {A B C : World}, Kp x A B → Kp x B C → Kp x A C) (hKb : ∀ (x : α) (W : World) (l : Nat) (o o' : Obj), w.heap.size ≤ l → W.heap[l]? = some o → o.isCells = false → o.isWalk = false → Kp x W (W.putObj l o')) (hPhi : ∀ pre (p q : World → Prop) x V, (∀ U, p U → q U) → Phi pre p x V → Phi pre q x V) (hb0 : Below w0.heap.size w0 w) (hps : ∀ x, (encs x).size = ps.size)
    (I : List α → World → Prop) (Ix : Code → List α → World → Prop) (hI : OwnFrom w.heap.size I) (hIx : ∀ c, OwnFrom w.heap.size (Ix c)) (h0 : I [] w)
    (Ax : List α → α → Act → World → Prop) (hAx : ∀ pre x a', OwnFrom w.heap.size (fun (_ : Unit) W => Ax pre x a' W))
    (hassign : ∀ (l : Nat) (pre : List α) (x : α) (W : World) (K : Act → World → Prop), I pre W → Phi pre (I pre) x W → (∀ a' W', KeepsFrom w.heap.size W W' → Kp x W W' → I pre W' → Ax pre x a' W' → K a' W') →
      assign.wpIn (F.inRound l) (n - 1 - 1) P (Exit.then K (fun _ _ _ => False)) { tmps := (ps.zip (encs x)).foldl (fun t (p, v) => t.setIfInBounds p v) a.tmps, defers := [] } W)
    (hbody : ∀ (l : Nat) (pre : List α) (x : α) (a' : Act) (W : World), w.heap.size ≤ l → (∃ r, W.heap[l]? = some (.loop r)) → I pre W → Ax pre x a' W → body.wpIn (F.inRound l) (n - 1 - 1) P (ownPostG w.heap.size (Kp x) I Ix (pre ++ [x]) W) a' W)
    (hdone : ∀ (D : Nat) (xs : List α) (W : World), w.heap.size ≤ D → S xs → I xs W → W.heap[D]? = some (.deferred (some [])) → Q .normal { a with defers := { target := .collected D, args := #[] } :: a.defers } W)
    (hstop : ∀ (D : Nat) (c : Code) (pre : List α) (W : World), w.heap.size ≤ D → Sp pre → Ix c pre W → W.heap[D]? = some (.deferred (some [])) → c.wpIn F n P Q { a with defers := { target := .collected D, args := #[] } :: a.defers } W) :
    (Code.rangeFunc g ps assign body).wpIn F n P Q a w := by
  refine wpIn_rangeFunc fun fn hfn => ?_
  rw [hro]
  have hnew : AtRest fn a.tmps ps assign body w.heap.size .ready none ((w.alloc (.deferred (some []))).alloc (.loop (recOf fn a.tmps ps assign body w.heap.size .ready none))) := by
    have h2 := World.alloc_heap_new (w.alloc (.deferred (some []))) (.loop (recOf fn a.tmps ps assign body w.heap.size .ready none))
    rw [World.size_alloc] at h2
    exact ⟨h2, (Below.heap_alloc _ _ _ (by simp)).trans (World.alloc_heap_new w _)⟩
  have hsz : w.heap.size + 2 = ((w.alloc (.deferred (some []))).alloc (.loop (recOf fn a.tmps ps assign body w.heap.size .ready none))).heap.size := by simp
  have hI1 : I [] ((w.alloc (.deferred (some []))).alloc (.loop (recOf fn a.tmps ps assign body w.heap.size .ready none))) := hI.alloc _ (hI.alloc _ h0)
  have hb1 : Below w0.heap.size w0 ((w.alloc (.deferred (some []))).alloc (.loop (recOf fn a.tmps ps assign body w.heap.size .ready none))) :=
    hb0.trans ((((Below.refl _ w).alloc (Nat.le_refl _) _).alloc (by simp) _).mono hb0.size)
  have hen : (Instr.enterLoop fn a.tmps ps assign body none).run P w = .ok (w.heap.size + 1, [{ target := .collected w.heap.size, args := #[] }]) ((w.alloc (.deferred (some []))).alloc (.loop (recOf fn a.tmps ps assign body w.heap.size .ready none))) := run_enterLoop_outer _ _ _ _ _
  generalize (w.alloc (.deferred (some []))).alloc (.loop (recOf fn a.tmps ps assign body w.heap.size .ready none)) = W1 at *
  refine ⟨w.heap.size + 1, [{ target := .collected w.heap.size, args := #[] }], W1, { target := .fn (.func gf) lb, args := #[.func (.yield (w.heap.size + 1)) #[] #[]] }, W1, gf,
    #[.func (.yield (w.heap.size + 1)) #[] #[]] ++ lb, W1, hen, ?_, ?_, ?_, fun _ => h1, ?_⟩
  · simp only [resolve, hg]; simp [go_sem]
  · intro f' hf'; simp [Target.leads] at hf'; subst hf'; exact hFg
  · simp [invoke, go_sem, eg]
  have hcells : ∀ {A : World} {row : Option Nat}, (∀ r, row = some r → W1.heap.size ≤ r ∧ ∃ o : Obj, A.heap[r]? = some o ∧ o.isWalk = true) → (∀ r, row = some r → w.heap.size ≤ r ∧ ∃ o : Obj, A.heap[r]? = some o ∧ o.isCells = false) := fun hr r e => by
    obtain ⟨hB, o, ho, hw⟩ := hr r e
    exact ⟨by omega, o, ho, Obj.not_cells_of_walk hw⟩
  refine (hseq (w.heap.size + 1) (fun pre W => I pre W ∧ AtRest fn a.tmps ps assign body w.heap.size .ready none W) (fun pre W => ∃ c, Ix c pre W ∧ AtRest fn a.tmps ps assign body w.heap.size .done (some c) W) W1 hb1
    (fun s A B row hs hg' hr => ⟨hI s A B row hs.1 hg' (hcells hr), hs.2.abides hg' hr⟩)
    (fun s A B row hs hg' hr => by obtain ⟨c, hc, hk⟩ := hs; exact ⟨c, hIx c s A B row hc hg' (hcells hr), hk.abides hg' hr⟩) ?_ ⟨hI1, hnew⟩).mono ?_
  · rintro pre x V ⟨hi, hat⟩ hphi
    refine ⟨fn, _, assign, body, run_yield hat.1 (hps x), roundIn_of_wpIn hfn (hassign _ pre x V _ hi (hPhi _ _ _ _ _ (fun _ h => h.1) hphi) fun a' W hk1 hkp1 hi1 hax => ?_)⟩
    have hat1 := hat.keeps hk1
    have hlt := (Array.getElem?_eq_some_iff.1 hat1.1).1
    refine ⟨_, run_beginRound hat1.1 rfl, ?_⟩
    have hat2 : AtRest fn a.tmps ps assign body w.heap.size .busy none (W.putObj (w.heap.size + 1) (.loop (recOf fn a.tmps ps assign body w.heap.size .busy none))) := hat1.turn
    have hkp2 := hKb x W (w.heap.size + 1) _ (.loop (recOf fn a.tmps ps assign body w.heap.size .busy none)) (Nat.le_succ _) hat1.1 rfl rfl
    refine wpIn_mono (hbody _ pre x a' _ (Nat.le_succ _) ⟨_, hat2.1⟩ (hI.putObj _ hi1 (Nat.le_succ _) hat1.1 rfl) ((hAx pre x a').putObj (s := ()) _ hax (Nat.le_succ _) hat1.1 rfl)) ?_
    rintro e a3 W3 hp
    cases e with
    | normal =>
      obtain ⟨hk3, hkp3, hi3⟩ := hp
      have hat3 := hat2.keeps hk3
      exact ⟨_, _, run_endRound none hat3.1, .inl ⟨rfl, ⟨hI.putObj _ hi3 (Nat.le_succ _) hat3.1 rfl, hat3.turn (st' := .ready) (pe' := none)⟩, hKt hkp1 (hKt (hKt hkp2 hkp3) (hKb _ _ _ _ _ (Nat.le_succ _) hat3.1 rfl rfl))⟩⟩
    | ret =>
      obtain ⟨hk3, hi3⟩ := hp
      have hat3 := hat2.keeps hk3
      exact ⟨_, _, run_endRound (some .ret) hat3.1, .inr ⟨rfl, .ret, (hIx _).putObj _ hi3 (Nat.le_succ _) hat3.1 rfl, hat3.turn (st' := .done) (pe' := some .ret)⟩⟩
    | exit id =>
      obtain ⟨hk3, hi3⟩ := hp
      have hat3 := hat2.keeps hk3
      exact ⟨_, _, run_endRound (some (.exit id)) hat3.1, .inr ⟨rfl, .exit id, (hIx _).putObj _ hi3 (Nat.le_succ _) hat3.1 rfl, hat3.turn (st' := .done) (pe' := some (.exit id))⟩⟩
    | goto t =>
      obtain ⟨hk3, hi3⟩ := hp
      have hat3 := hat2.keeps hk3
      exact ⟨_, _, run_endRound (some (.goto t)) hat3.1, .inr ⟨rfl, .goto t, (hIx _).putObj _ hi3 (Nat.le_succ _) hat3.1 rfl, hat3.turn (st' := .done) (pe' := some (.goto t))⟩⟩
    | panic ch => exact hp.elim
    | outgrown => exact hp.elim
  · rintro e W2 ⟨⟨v, rfl⟩, (⟨xs, hS, hi, hat⟩ | ⟨pre, hSp, c, hi, hat⟩)⟩
    · exact ⟨none, _, run_endLoop hat.1 (by simp [recOf]), hdone _ xs _ (Nat.le_refl _) hS (hI.putObj _ hi (Nat.le_succ _) hat.1 rfl) ((World.putObj_heap_other (by omega)).trans hat.2)⟩
    · exact ⟨some c, _, run_endLoop hat.1 (by simp [recOf]), hstop _ c pre _ (Nat.le_refl _) hSp ((hIx c).putObj _ hi (Nat.le_succ _) hat.1 rfl) ((World.putObj_heap_other (by omega)).trans hat.2)⟩
end
end Go.Proofs.YtpdfkgmgmndcfaaGreatDoor
