/-
  A range over a function that writes a cell of its own between two rounds (strings.Lines, strings.SplitSeq): the contract of such an iterator, and the law of the statement.
-/
import Derived.Test.YtonkdcbmmdhjgaaGreatDoorRt
namespace Go.Proofs.YtonkdcbmmdhjgaaGreatDoor
open Go.RowKit Go.Shelf

/-- The iterator's contract where it writes a cell of its own (block b): what the rounds tell must bear that. -/
def SeqToldB (b : Nat) {α : Type} (F : Fence) (n : Nat) (P : Program) (gf : Nat) (lb : Array Value) (encs : α → Array Value) (Kp : α → World → World → Prop) (Phi : List α → (World → Prop) → α → World → Prop) (S Sp : List α → Prop) (w0 : World) : Prop :=
  ∀ (l : Nat) (J Jx : List α → World → Prop) (W : World), Below w0.heap.size w0 W → AbidesFrom W.heap.size J → AbidesFrom W.heap.size Jx → (∀ pre A B, J pre A → A.grownBy B (some b) → J pre B) → (∀ pre A B, Jx pre A → A.grownBy B (some b) → Jx pre B) →
    (∀ pre x V, J pre V → Phi pre (J pre) x V → YieldAt F (n - 1) P l (encs x) V fun e V' => (e = .returned (.bool true) ∧ J (pre ++ [x]) V' ∧ Kp x V V') ∨ (e = .returned (.bool false) ∧ Jx (pre ++ [x]) V')) →
    J [] W → CallsIn F n P gf (#[.func (.yield l) #[] #[]] ++ lb) W fun e V => (∃ v, e = .returned v) ∧ ((∃ xs, S xs ∧ J xs V) ∨ (∃ pre, Sp pre ∧ Jx pre V))

theorem AtRest.far {ps : Array Tmp} {assign body : Code} {fn : FuncId} {tmps : Array Value} {B b : Nat} {st : LoopState} {pe : Option Code} {V W : World} (h : AtRest fn tmps ps assign body B st pe V) (hb : b < B) (hg : V.grownBy W (some b)) : AtRest fn tmps ps assign body B st pe W :=
  ⟨(hg.block _ (Array.getElem?_eq_some_iff.1 h.1).1 (by intro e; have := Option.some.inj e; omega)).trans h.1, (hg.block _ (Array.getElem?_eq_some_iff.1 h.2).1 (by intro e; have := Option.some.inj e; omega)).trans h.2⟩

section
variable {α : Type} {F : Fence} {n : Nat} {P : Program} {ps : Array Tmp} {assign body : Code} {a : Act} {w w0 : World}
theorem wpIn_rangeFunc_toldB {b : Nat} {g : Operand} {Q : Exit → Act → World → Prop}
    (hro : F.round = none) (h1 : 1 ≤ n) {gf : Nat} {lb : Array Value} (hg : a.eval g = .func (.func gf) #[] lb) (hFg : F.fn gf) (eg : ∀ args w, (callFunc gf args).run P w = .ok (.enter gf args) w)
    {encs : α → Array Value} {Kp : α → World → World → Prop} {Phi : List α → (World → Prop) → α → World → Prop} {S Sp : List α → Prop} (hseq : SeqToldB b F (n - 1) P gf lb encs Kp Phi S Sp w0)
    (hKt : ∀ {x : α} {A B C : World}, Kp x A B → Kp x B C → Kp x A C) (hKb : ∀ (x : α) (W : World) (l : Nat) (o o' : Obj), w.heap.size ≤ l → W.heap[l]? = some o → o.isCells = false → o.isWalk = false → Kp x W (W.putObj l o')) (hPhi : ∀ pre (p q : World → Prop) x V, (∀ U, p U → q U) → Phi pre p x V → Phi pre q x V) (hb0 : Below w0.heap.size w0 w) (hps : ∀ x, (encs x).size = ps.size) (hbw : b < w.heap.size)
    (I : List α → World → Prop) (Ix : Code → List α → World → Prop) (hI : OwnFrom w.heap.size I) (hIx : ∀ c, OwnFrom w.heap.size (Ix c)) (hIb : ∀ pre A B, I pre A → A.grownBy B (some b) → I pre B) (hIxb : ∀ c pre A B, Ix c pre A → A.grownBy B (some b) → Ix c pre B) (h0 : I [] w)
    (Ax : List α → α → Act → World → Prop) (hAx : ∀ pre x a', OwnFrom w.heap.size (fun (_ : Unit) W => Ax pre x a' W))
    (hassign : ∀ (l : Nat) (pre : List α) (x : α) (W : World) (K : Act → World → Prop), I pre W → Phi pre (I pre) x W → (∀ a' W', KeepsFrom w.heap.size W W' → Kp x W W' → I pre W' → Ax pre x a' W' → K a' W') →
      assign.wpIn (F.inRound l) (n - 1 - 1) P (Exit.then K (fun _ _ _ => False)) { tmps := (ps.zip (encs x)).foldl (fun t (p, v) => t.setIfInBounds p v) a.tmps, defers := [] } W)
    (hbody : ∀ (l : Nat) (pre : List α) (x : α) (a' : Act) (W : World), w.heap.size ≤ l → (∃ r, W.heap[l]? = some (.loop r)) → I pre W → Ax pre x a' W → body.wpIn (F.inRound l) (n - 1 - 1) P (ownPostG w.heap.size (Kp x) I Ix (pre ++ [x]) W) a' W)
    (hdone : ∀ (D : Nat) (xs : List α) (W : World), w.heap.size ≤ D → S xs → I xs W → W.heap[D]? = some (.deferred (some [])) → Q .normal { a with defers := { target := .collected D, args := #[] } :: a.defers } W)
    (hstop : ∀ (D : Nat) (c : Code) (pre : List α) (W : World), w.heap.size ≤ D → Sp pre → Ix c pre W → W.heap[D]? = some (.deferred (some [])) → c.wpIn F n P Q { a with defers := { target := .collected D, args := #[] } :: a.defers } W) :
    (Code.rangeFunc g ps assign body).wpIn F n P Q a w := by
  refine wpIn_rangeFunc fun fn hfn => ?_
  rw [hro]
  have hnew : AtRest fn a.tmps ps assign body w.heap.size .ready none ((w.alloc (.deferred (some []))).alloc (.loop (recOf fn a.tmps ps assign body w.heap.size .ready none))) := by
    have h2 := World.alloc_heap_new (w.alloc (.deferred (some []))) (.loop (recOf fn a.tmps ps assign body w.heap.size .ready none))
    rw [World.size_alloc] at h2
    exact ⟨h2, (Below.heap_alloc _ _ _ (by simp)).trans (World.alloc_heap_new w _)⟩
  have hsz : w.heap.size + 2 = ((w.alloc (.deferred (some []))).alloc (.loop (recOf fn a.tmps ps assign body w.heap.size .ready none))).heap.size := by simp
  have hI1 : I [] ((w.alloc (.deferred (some []))).alloc (.loop (recOf fn a.tmps ps assign body w.heap.size .ready none))) := hI.alloc _ (hI.alloc _ h0)
  have hb1 : Below w0.heap.size w0 ((w.alloc (.deferred (some []))).alloc (.loop (recOf fn a.tmps ps assign body w.heap.size .ready none))) :=
    hb0.trans ((((Below.refl _ w).alloc (Nat.le_refl _) _).alloc (by simp) _).mono hb0.size)
  have hen : (Instr.enterLoop fn a.tmps ps assign body none).run P w = .ok (w.heap.size + 1, [{ target := .collected w.heap.size, args := #[] }]) ((w.alloc (.deferred (some []))).alloc (.loop (recOf fn a.tmps ps assign body w.heap.size .ready none))) := run_enterLoop_outer _ _ _ _ _
  generalize (w.alloc (.deferred (some []))).alloc (.loop (recOf fn a.tmps ps assign body w.heap.size .ready none)) = W1 at *
  refine ⟨w.heap.size + 1, [{ target := .collected w.heap.size, args := #[] }], W1, { target := .fn (.func gf) lb, args := #[.func (.yield (w.heap.size + 1)) #[] #[]] }, W1, gf,
    #[.func (.yield (w.heap.size + 1)) #[] #[]] ++ lb, W1, hen, ?_, ?_, ?_, fun _ => h1, ?_⟩
  · simp only [resolve, hg]; simp [go_sem]
  · intro f' hf'; simp [Target.leads] at hf'; subst hf'; exact hFg
  · simp [invoke, go_sem, eg]
  have hcells : ∀ {A : World} {row : Option Nat}, (∀ r, row = some r → W1.heap.size ≤ r ∧ ∃ o : Obj, A.heap[r]? = some o ∧ o.isWalk = true) → (∀ r, row = some r → w.heap.size ≤ r ∧ ∃ o : Obj, A.heap[r]? = some o ∧ o.isCells = false) := fun hr r e => by
    obtain ⟨hB, o, ho, hw⟩ := hr r e
    exact ⟨by omega, o, ho, Obj.not_cells_of_walk hw⟩
  refine (hseq (w.heap.size + 1) (fun pre W => I pre W ∧ AtRest fn a.tmps ps assign body w.heap.size .ready none W) (fun pre W => ∃ c, Ix c pre W ∧ AtRest fn a.tmps ps assign body w.heap.size .done (some c) W) W1 hb1
    (fun s A B row hs hg' hr => ⟨hI s A B row hs.1 hg' (hcells hr), hs.2.abides hg' hr⟩)
    (fun s A B row hs hg' hr => by obtain ⟨c, hc, hk⟩ := hs; exact ⟨c, hIx c s A B row hc hg' (hcells hr), hk.abides hg' hr⟩)
    (fun pre A B hs hg' => ⟨hIb pre A B hs.1 hg', hs.2.far hbw hg'⟩) (fun pre A B hs hg' => by obtain ⟨c, hc, hk⟩ := hs; exact ⟨c, hIxb c pre A B hc hg', hk.far hbw hg'⟩) ?_ ⟨hI1, hnew⟩).mono ?_
  · rintro pre x V ⟨hi, hat⟩ hphi
    refine ⟨fn, _, assign, body, run_yield hat.1 (hps x), roundIn_of_wpIn hfn (hassign _ pre x V _ hi (hPhi _ _ _ _ _ (fun _ h => h.1) hphi) fun a' W hk1 hkp1 hi1 hax => ?_)⟩
    have hat1 := hat.keeps hk1
    have hlt := (Array.getElem?_eq_some_iff.1 hat1.1).1
    refine ⟨_, run_beginRound hat1.1 rfl, ?_⟩
    have hat2 : AtRest fn a.tmps ps assign body w.heap.size .busy none (W.putObj (w.heap.size + 1) (.loop (recOf fn a.tmps ps assign body w.heap.size .busy none))) := hat1.turn
    have hkp2 := hKb x W (w.heap.size + 1) _ (.loop (recOf fn a.tmps ps assign body w.heap.size .busy none)) (Nat.le_succ _) hat1.1 rfl rfl
    refine wpIn_mono (hbody _ pre x a' _ (Nat.le_succ _) ⟨_, hat2.1⟩ (hI.putObj _ hi1 (Nat.le_succ _) hat1.1 rfl) ((hAx pre x a').putObj (s := ()) _ hax (Nat.le_succ _) hat1.1 rfl)) ?_
    rintro e a3 W3 hp
    cases e with
    | normal =>
      obtain ⟨hk3, hkp3, hi3⟩ := hp
      have hat3 := hat2.keeps hk3
      exact ⟨_, _, run_endRound none hat3.1, .inl ⟨rfl, ⟨hI.putObj _ hi3 (Nat.le_succ _) hat3.1 rfl, hat3.turn (st' := .ready) (pe' := none)⟩, hKt hkp1 (hKt (hKt hkp2 hkp3) (hKb _ _ _ _ _ (Nat.le_succ _) hat3.1 rfl rfl))⟩⟩
    | ret =>
      obtain ⟨hk3, hi3⟩ := hp
      have hat3 := hat2.keeps hk3
      exact ⟨_, _, run_endRound (some .ret) hat3.1, .inr ⟨rfl, .ret, (hIx _).putObj _ hi3 (Nat.le_succ _) hat3.1 rfl, hat3.turn (st' := .done) (pe' := some .ret)⟩⟩
    | exit id =>
      obtain ⟨hk3, hi3⟩ := hp
      have hat3 := hat2.keeps hk3
      exact ⟨_, _, run_endRound (some (.exit id)) hat3.1, .inr ⟨rfl, .exit id, (hIx _).putObj _ hi3 (Nat.le_succ _) hat3.1 rfl, hat3.turn (st' := .done) (pe' := some (.exit id))⟩⟩
    | goto t =>
      obtain ⟨hk3, hi3⟩ := hp
      have hat3 := hat2.keeps hk3
      exact ⟨_, _, run_endRound (some (.goto t)) hat3.1, .inr ⟨rfl, .goto t, (hIx _).putObj _ hi3 (Nat.le_succ _) hat3.1 rfl, hat3.turn (st' := .done) (pe' := some (.goto t))⟩⟩
    | panic ch => exact hp.elim
    | outgrown => exact hp.elim
  · rintro e W2 ⟨⟨v, rfl⟩, (⟨xs, hS, hi, hat⟩ | ⟨pre, hSp, c, hi, hat⟩)⟩
    · exact ⟨none, _, run_endLoop hat.1 (by simp [recOf]), hdone _ xs _ (Nat.le_refl _) hS (hI.putObj _ hi (Nat.le_succ _) hat.1 rfl) ((World.putObj_heap_other (by omega)).trans hat.2)⟩
    · exact ⟨some c, _, run_endLoop hat.1 (by simp [recOf]), hstop _ c pre _ (Nat.le_refl _) hSp ((hIx c).putObj _ hi (Nat.le_succ _) hat.1 rfl) ((World.putObj_heap_other (by omega)).trans hat.2)⟩
end
section
variable {P : Program} {ops : Array Oper} {Q : Exit → Act → World → Prop} {md : Region.Mode}
theorem wpOpIn_of_wpOp_wide (n : Nat) (hops : ∀ o ∈ ops, ∀ c, o.op ≠ .defer c) (hQ : ¬ LetsOut Q) {i : Nat} {K : Act → World → Prop} {a : Act} {w : World} (h : wpOp P ops Q i K a w) : wpOpIn Fence.wide n P ops Q i K a w := by
  unfold wpOp at h
  unfold wpOpIn
  cases ho : ops[i]? with
  | none => simpa [ho] using h
  | some o =>
    simp only [ho] at h ⊢
    split
    · rename_i hw
      rw [if_pos hw] at h
      rcases h with h | ⟨_, h⟩
      · unfold Oper.wp at h
        unfold Oper.wpIn
        refine ⟨fun _ _ => trivial, ?_⟩
        rw [Oper.semAt_plain _ _ o (hops o (Array.mem_of_getElem? ho))]
        generalize (execOp a.eval o).run P w = r at *
        cases r with
        | ok x w' =>
          cases x <;> simp only [Oper.upon, Oper.uponIn] at h ⊢ <;> first
            | exact h
            | exact ⟨fun hd => (by cases hd), callsIn_wide.2 h⟩
            | exact ⟨fun hd => (by cases hd), fun c cs _ => by
                obtain ⟨v, w2, h1, h2⟩ := h c cs
                exact ⟨v, w2, h1, stepsIn_wide.2 h2⟩⟩
        | halt x w' => cases x <;> simp only [Oper.upon, Oper.uponIn] at h ⊢ <;> exact h
      · exact absurd h hQ
    · rename_i hw
      rw [if_neg hw] at h
      exact ⟨fun _ _ => trivial, h⟩
theorem wpAnyIn_of_wpAny_wide (n : Nat) (hops : ∀ o ∈ ops, ∀ c, o.op ≠ .defer c) (hQ : ¬ LetsOut Q) : ∀ (fuel : Nat) (listed : Array Bool) (a : Act) (w : World), wpAny P md ops Q fuel listed a w → wpAnyIn Fence.wide n P md ops Q fuel listed a w
  | 0, _, _, _, h => h
  | fuel + 1, _, _, _, h => ⟨h.1, fun i hi => wpOpIn_of_wpOp_wide n hops hQ (wpOp_mono (fun a w => wpAnyIn_of_wpAny_wide n hops hQ fuel _ a w) (h.2 i hi))⟩
theorem wpIn_region_held_wide {n id : Nat} {a : Act} {w : World} (S : World → Prop) (hm : P.follows .mixedOrders = true) (hops : (ops.all fun o => match o.op with | .defer _ => false | _ => true) = true) (hQ : ¬ LetsOut Q) (hS : S w.drew)
    (h : S w.drew → wpAnyH P .any ops Q S ops.size (Array.replicate ops.size false) a w.drew) : (Code.region id ops true).wpIn Fence.wide n P Q a w :=
  wpIn_region_any hm (wpAnyIn_of_wpAny_wide n (fun o ho c e => by
    have := (Array.all_eq_true_iff_forall_mem.1 hops) o ho
    rw [e] at this
    cases this) hQ _ _ _ _ (wpAny_of_held _ _ _ _ (h hS)))
end
theorem wpIn_normal {F : Fence} {n : Nat} {P : Program} {c : Code} {Q : Exit → Act → World → Prop} {a : Act} {w : World} (h : Code.wpIn F n P c (fun e a' w' => e = .normal ∧ Q e a' w') a w) : Code.wpIn F n P c Q a w :=
  wpIn_mono h (by rintro e a' w' ⟨rfl, h⟩; exact h)
end Go.Proofs.YtonkdcbmmdhjgaaGreatDoor
