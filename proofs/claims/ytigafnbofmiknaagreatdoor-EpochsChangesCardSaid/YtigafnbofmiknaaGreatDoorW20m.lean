/- Rt, TrL, TrR, ArgE, ArgL -/
import Derived.Test.YtigafnbofmiknaaGreatDoorW20g
import Derived.Test.YtigafnbofmiknaaGreatDoorW20l
import Derived.Test.YtigafnbofmiknaaGreatDoorW20f
namespace Go.Proofs.YtigafnbofmiknaaGreatDoor
set_option maxRecDepth 100000
set_option maxHeartbeats 10000000
open Go.RowKit
section
open Go.RowKit Go.Shelf
def zfa {α : Type} (F : Fence) (n : Nat) (P : Program) (gf : Nat) (lb : Array Value) (encs : α -> Array Value) (Kp : α -> World -> World -> Prop) (Phi : List α -> (World -> Prop) -> α -> World -> Prop) (S Sp : List α -> Prop) (w0 : World) : Prop :=
 ∀ (l : Nat) (J Jx : List α -> World -> Prop) (W : World), Below w0.heap.size w0 W -> AbidesFrom W.heap.size J -> AbidesFrom W.heap.size Jx ->
  (∀ pre x V, J pre V -> Phi pre (J pre) x V -> YieldAt F (n - 1) P l (encs x) V fun e V' => (e = .returned (.bool true) /\ J (pre ++ [x]) V' /\ Kp x V V') \/ (e = .returned (.bool false) /\ Jx (pre ++ [x]) V')) ->
  J [] W -> CallsIn F n P gf (#[.func (.yield l) #[] #[]] ++ lb) W fun e V => (∃ v, e = .returned v) /\ ((∃ xs, S xs /\ J xs V) \/ (∃ pre, Sp pre /\ Jx pre V))
section
variable {α : Type} {F : Fence} {n : Nat} {P : Program} {ps : Array Tmp} {assign body : Code} {a : Act} {w w0 : World}
def recOf (fn : FuncId) (tmps : Array Value) (ps : Array Tmp) (assign body : Code) (B : Nat) (st : LoopState) (pe : Option Code) : Loop := { state := st, pending := pe, fn, tmps, params := ps, assign, body, defers := B }
def AtRest (fn : FuncId) (tmps : Array Value) (ps : Array Tmp) (assign body : Code) (B : Nat) (st : LoopState) (pe : Option Code) (W : World) : Prop :=
 W.heap[B + 1]? = some (.loop (recOf fn tmps ps assign body B st pe)) /\ W.heap[B]? = some (.deferred (some []))
theorem AtRest.keeps {fn : FuncId} {tmps : Array Value} {B : Nat} {st : LoopState} {pe : Option Code} {V W : World} (h : AtRest fn tmps ps assign body B st pe V) (k : KeepsFrom B V W) : AtRest fn tmps ps assign body B st pe W :=
 ⟨k.same _ _ (Nat.le_succ B) h.1 rfl, k.same _ _ (Nat.le_refl B) h.2 rfl⟩
theorem AtRest.turn {fn : FuncId} {tmps : Array Value} {B : Nat} {st st' : LoopState} {pe pe' : Option Code} {W : World} (h : AtRest fn tmps ps assign body B st pe W) : AtRest fn tmps ps assign body B st' pe' (W.putObj (B + 1) (.loop (recOf fn tmps ps assign body B st' pe'))) :=
 ⟨World.putObj_heap_same (Array.getElem?_eq_some_iff.1 h.1).1, (World.putObj_heap_other (by omega)).trans h.2⟩
theorem AtRest.abides {fn : FuncId} {tmps : Array Value} {B D : Nat} {st : LoopState} {pe : Option Code} {V W : World} {row : Option Nat} (h : AtRest fn tmps ps assign body B st pe V) (hg : V.grownBy W row) (hr : ∀ r, row = some r -> D <= r /\ ∃ o : Obj, V.heap[r]? = some o /\ o.isWalk = true) : AtRest fn tmps ps assign body B st pe W :=
 ⟨(grownBy_keeps hg (fun r e => (hr r e).2) h.1 rfl).trans h.1, (grownBy_keeps hg (fun r e => (hr r e).2) h.2 rfl).trans h.2⟩
theorem wpIn_rangeFunc_told {g : Operand} {Q : Exit -> Act -> World -> Prop}
    (hro : F.round = none) (h1 : 1 <= n) {gf : Nat} {lb : Array Value} (hg : a.eval g = .func (.func gf) #[] lb) (hFg : F.fn gf) (eg : ∀ args w, (callFunc gf args).run P w = .ok (.enter gf args) w)
    {encs : α -> Array Value} {Kp : α -> World -> World -> Prop} {Phi : List α -> (World -> Prop) -> α -> World -> Prop} {S Sp : List α -> Prop} (hseq : zfa F (n - 1) P gf lb encs Kp Phi S Sp w0)
    (hKt : ∀ {x : α} {A B C : World}, Kp x A B -> Kp x B C -> Kp x A C) (hKb : ∀ (x : α) (W : World) (l : Nat) (o o' : Obj), w.heap.size <= l -> W.heap[l]? = some o -> o.isCells = false -> o.isWalk = false -> Kp x W (W.putObj l o')) (hPhi : ∀ pre (p q : World -> Prop) x V, (∀ U, p U -> q U) -> Phi pre p x V -> Phi pre q x V) (hb0 : Below w0.heap.size w0 w) (hps : ∀ x, (encs x).size = ps.size)
    (I : List α -> World -> Prop) (Ix : Code -> List α -> World -> Prop) (hI : OwnFrom w.heap.size I) (hIx : ∀ c, OwnFrom w.heap.size (Ix c)) (h0 : I [] w)
    (Ax : List α -> α -> Act -> World -> Prop) (hAx : ∀ pre x a', OwnFrom w.heap.size (fun (_ : Unit) W => Ax pre x a' W))
    (hassign : ∀ (l : Nat) (pre : List α) (x : α) (W : World) (K : Act -> World -> Prop), I pre W -> Phi pre (I pre) x W -> (∀ a' W', KeepsFrom w.heap.size W W' -> Kp x W W' -> I pre W' -> Ax pre x a' W' -> K a' W') ->
     assign.wpIn (F.inRound l) (n - 1 - 1) P (Exit.then K (fun _ _ _ => False)) { tmps := (ps.zip (encs x)).foldl (fun t (p, v) => t.setIfInBounds p v) a.tmps, defers := [] } W)
    (hbody : ∀ (l : Nat) (pre : List α) (x : α) (a' : Act) (W : World), w.heap.size <= l -> (∃ r, W.heap[l]? = some (.loop r)) -> I pre W -> Ax pre x a' W -> body.wpIn (F.inRound l) (n - 1 - 1) P (ownPostG w.heap.size (Kp x) I Ix (pre ++ [x]) W) a' W)
    (hdone : ∀ (D : Nat) (xs : List α) (W : World), w.heap.size <= D -> S xs -> I xs W -> W.heap[D]? = some (.deferred (some [])) -> Q .normal { a with defers := { target := .collected D, args := #[] } :: a.defers } W)
    (hstop : ∀ (D : Nat) (c : Code) (pre : List α) (W : World), w.heap.size <= D -> Sp pre -> Ix c pre W -> W.heap[D]? = some (.deferred (some [])) -> c.wpIn F n P Q { a with defers := { target := .collected D, args := #[] } :: a.defers } W) :
    (Code.rangeFunc g ps assign body).wpIn F n P Q a w := by
 refine wpIn_rangeFunc fun fn hfn => ?_
 rw [hro]
 have hnew : AtRest fn a.tmps ps assign body w.heap.size .ready none ((w.alloc (.deferred (some []))).alloc (.loop (recOf fn a.tmps ps assign body w.heap.size .ready none))) := by
  have h2 := World.alloc_heap_new (w.alloc (.deferred (some []))) (.loop (recOf fn a.tmps ps assign body w.heap.size .ready none))
  rw [World.size_alloc] at h2
  exact ⟨h2, (Below.heap_alloc _ _ _ (by simp)).trans (World.alloc_heap_new w _)⟩
 have hsz : w.heap.size + 2 = ((w.alloc (.deferred (some []))).alloc (.loop (recOf fn a.tmps ps assign body w.heap.size .ready none))).heap.size := by simp
 have hI1 : I [] ((w.alloc (.deferred (some []))).alloc (.loop (recOf fn a.tmps ps assign body w.heap.size .ready none))) := hI.alloc _ (hI.alloc _ h0)
 have hb1 : Below w0.heap.size w0 ((w.alloc (.deferred (some []))).alloc (.loop (recOf fn a.tmps ps assign body w.heap.size .ready none))) :=
  hb0.trans ((((Below.refl _ w).alloc (Nat.le_refl _) _).alloc (by simp) _).mono hb0.size)
 have hen : (Instr.enterLoop fn a.tmps ps assign body none).run P w = .ok (w.heap.size + 1, [{ target := .collected w.heap.size, args := #[] }]) ((w.alloc (.deferred (some []))).alloc (.loop (recOf fn a.tmps ps assign body w.heap.size .ready none))) := run_enterLoop_outer _ _ _ _ _
 generalize (w.alloc (.deferred (some []))).alloc (.loop (recOf fn a.tmps ps assign body w.heap.size .ready none)) = W1 at *
 refine ⟨w.heap.size + 1, [{ target := .collected w.heap.size, args := #[] }], W1, { target := .fn (.func gf) lb, args := #[.func (.yield (w.heap.size + 1)) #[] #[]] }, W1, gf,
  #[.func (.yield (w.heap.size + 1)) #[] #[]] ++ lb, W1, hen, ?_, ?_, ?_, fun _ => h1, ?_⟩
 · simp only [resolve, hg]; simp [go_sem]
 · intro f' hf'; simp [Target.leads] at hf'; subst hf'; exact hFg
 · simp [invoke, go_sem, eg]
 have hcells : ∀ {A : World} {row : Option Nat}, (∀ r, row = some r -> W1.heap.size <= r /\ ∃ o : Obj, A.heap[r]? = some o /\ o.isWalk = true) -> (∀ r, row = some r -> w.heap.size <= r /\ ∃ o : Obj, A.heap[r]? = some o /\ o.isCells = false) := fun hr r e => by
  obtain ⟨hB, o, ho, hw⟩ := hr r e
  exact ⟨by omega, o, ho, Obj.not_cells_of_walk hw⟩
 refine (hseq (w.heap.size + 1) (fun pre W => I pre W /\ AtRest fn a.tmps ps assign body w.heap.size .ready none W) (fun pre W => ∃ c, Ix c pre W /\ AtRest fn a.tmps ps assign body w.heap.size .done (some c) W) W1 hb1
  (fun s A B row hs hg' hr => ⟨hI s A B row hs.1 hg' (hcells hr), hs.2.abides hg' hr⟩)
  (fun s A B row hs hg' hr => by obtain ⟨c, hc, hk⟩ := hs; exact ⟨c, hIx c s A B row hc hg' (hcells hr), hk.abides hg' hr⟩) ?_ ⟨hI1, hnew⟩).mono ?_
 · rintro pre x V ⟨hi, hat⟩ hphi
   refine ⟨fn, _, assign, body, run_yield hat.1 (hps x), roundIn_of_wpIn hfn (hassign _ pre x V _ hi (hPhi _ _ _ _ _ (fun _ h => h.1) hphi) fun a' W hk1 hkp1 hi1 hax => ?_)⟩
   have hat1 := hat.keeps hk1
   have hlt := (Array.getElem?_eq_some_iff.1 hat1.1).1
   refine ⟨_, run_beginRound hat1.1 rfl, ?_⟩
   have hat2 : AtRest fn a.tmps ps assign body w.heap.size .busy none (W.putObj (w.heap.size + 1) (.loop (recOf fn a.tmps ps assign body w.heap.size .busy none))) := hat1.turn
   have hkp2 := hKb x W (w.heap.size + 1) _ (.loop (recOf fn a.tmps ps assign body w.heap.size .busy none)) (Nat.le_succ _) hat1.1 rfl rfl
   refine wpIn_mono (hbody _ pre x a' _ (Nat.le_succ _) ⟨_, hat2.1⟩ (hI.putObj _ hi1 (Nat.le_succ _) hat1.1 rfl) ((hAx pre x a').putObj (s := ()) _ hax (Nat.le_succ _) hat1.1 rfl)) ?_
   rintro e a3 W3 hp
   cases e with
   | normal =>
    obtain ⟨hk3, hkp3, hi3⟩ := hp
    have hat3 := hat2.keeps hk3
    exact ⟨_, _, run_endRound none hat3.1, .inl ⟨rfl, ⟨hI.putObj _ hi3 (Nat.le_succ _) hat3.1 rfl, hat3.turn (st' := .ready) (pe' := none)⟩, hKt hkp1 (hKt (hKt hkp2 hkp3) (hKb _ _ _ _ _ (Nat.le_succ _) hat3.1 rfl rfl))⟩⟩
   | ret =>
    obtain ⟨hk3, hi3⟩ := hp
    have hat3 := hat2.keeps hk3
    exact ⟨_, _, run_endRound (some .ret) hat3.1, .inr ⟨rfl, .ret, (hIx _).putObj _ hi3 (Nat.le_succ _) hat3.1 rfl, hat3.turn (st' := .done) (pe' := some .ret)⟩⟩
   | exit id =>
    obtain ⟨hk3, hi3⟩ := hp
    have hat3 := hat2.keeps hk3
    exact ⟨_, _, run_endRound (some (.exit id)) hat3.1, .inr ⟨rfl, .exit id, (hIx _).putObj _ hi3 (Nat.le_succ _) hat3.1 rfl, hat3.turn (st' := .done) (pe' := some (.exit id))⟩⟩
   | goto t =>
    obtain ⟨hk3, hi3⟩ := hp
    have hat3 := hat2.keeps hk3
    exact ⟨_, _, run_endRound (some (.goto t)) hat3.1, .inr ⟨rfl, .goto t, (hIx _).putObj _ hi3 (Nat.le_succ _) hat3.1 rfl, hat3.turn (st' := .done) (pe' := some (.goto t))⟩⟩
   | panic ch => exact hp.elim
   | outgrown => exact hp.elim
 · rintro e W2 ⟨⟨v, rfl⟩, (⟨xs, hS, hi, hat⟩ | ⟨pre, hSp, c, hi, hat⟩)⟩
   · exact ⟨none, _, run_endLoop hat.1 (by simp [recOf]), hdone _ xs _ (Nat.le_refl _) hS (hI.putObj _ hi (Nat.le_succ _) hat.1 rfl) ((World.putObj_heap_other (by omega)).trans hat.2)⟩
   · exact ⟨some c, _, run_endLoop hat.1 (by simp [recOf]), hstop _ c pre _ (Nat.le_refl _) hSp ((hIx c).putObj _ hi (Nat.le_succ _) hat.1 rfl) ((World.putObj_heap_other (by omega)).trans hat.2)⟩
end
end
section
open Go.RowKit Go.Shelf
attribute [local go_sem] Oper.semAt_some
structure Lev where
 k : Nat
 n : Nat
 g : Nat
 o : Nat
 c : Nat
def KpL (x : Lev) (A B : World) : Prop := A.heap.size <= B.heap.size /\ (Rounds A -> Rounds B) /\ ∀ o, A.heap[x.g]? = some o -> o.isCells = true -> B.heap[x.g]? = some o
def PhiL (N b : Nat) (ps : List (List Int)) (pre : List Lev) (p : World -> Prop) (x : Lev) (V : World) : Prop :=
 x.k = pre.length /\ x.k <= 5 /\ x.n = 32 / 2 ^ x.k /\ DigsAt V x.g x.o (levC ps x.k x.n) /\ (x.g = b \/ (N <= x.g /\ ∃ U, p U /\ U.grownBy V none /\ U.heap.size <= x.g))
theorem PhiL.mono {N b : Nat} {ps : List (List Int)} (pre : List Lev) (p q : World -> Prop) (x : Lev) (V : World) (h : ∀ U, p U -> q U) (k : PhiL N b ps pre p x V) : PhiL N b ps pre q x V :=
 ⟨k.1, k.2.1, k.2.2.1, k.2.2.2.1, k.2.2.2.2.imp id (fun ⟨h1, U, h2, h3⟩ => ⟨h1, U, h U h2, h3⟩)⟩
theorem KpL.trans {x : Lev} {A B C : World} (h : KpL x A B) (k : KpL x B C) : KpL x A C := ⟨Nat.le_trans h.1 k.1, fun r => k.2.1 (h.2.1 r), fun o ho hc => k.2.2 o (h.2.2 o ho hc) hc⟩
theorem KpL.grown {x : Lev} {A B : World} {row : Option Nat} (hg : A.grownBy B row) (hr : row ≠ some 18) (h1 : row ≠ some x.g) : KpL x A B :=
 ⟨hg.size, fun r => r.grown hg (fun e => hr e.symm), fun o ho _ => (hg.block x.g (Array.getElem?_eq_some_iff.1 ho).1 (fun e => h1 e.symm)).trans ho⟩
theorem KpL.put {x : Lev} {W : World} {l : Nat} {o o' : Obj} (hl : 18 < l) (ho : W.heap[l]? = some o) (hc : o.isCells = false) : KpL x W (W.putObj l o') :=
 ⟨(grownBy_putObj' W l o').size, fun r => r.grown (grownBy_putObj' W l o') (fun e => by have := Option.some.inj e; omega), fun q hq hqc => ((grownBy_putObj' W l o').block x.g (Array.getElem?_eq_some_iff.1 hq).1 (fun e => by
  have := Option.some.inj e
  subst this
  rw [ho] at hq
  cases hq
  rw [hc] at hqc
  cases hqc)).trans hq⟩
theorem digs_block {w : World} {b off : Nat} {ps : List (List Int)} (hps : ∀ p ∈ ps, isDig p) (h : DigsAt w b off ps) (h0 : 0 < ps.length) : b < w.heap.size /\ ∃ o, w.heap[b]? = some o /\ o.isCells = true := by
 have h1 := h 0 h0
 have hl0 := (zbu hps 0).1
 have := h1 0 (.int .u8 ((ps.getD 0 zeroC).getD 0 0)) (by rw [Array.getElem?_toList]; exact yr (by omega))
 exact ⟨World.block_lt_of_cell? w _ this, cells_of_cell this⟩
theorem DigsAt.same {w w' : World} {b off : Nat} {ps : List (List Int)} (h : DigsAt w b off ps) (hb : w'.heap[b]? = w.heap[b]?) : DigsAt w' b off ps := fun j hj i v hv => (World.cell?_of_block hb).trans (h j hj i v hv)
theorem DigsAt.kp {w w' : World} {x : Lev} {off : Nat} {ps : List (List Int)} (hps : ∀ p ∈ ps, isDig p) (h : DigsAt w x.g off ps) (h0 : 0 < ps.length) (k : KpL x w w') : DigsAt w' x.g off ps := by
 obtain ⟨_, o, ho, hc⟩ := digs_block hps h h0
 exact h.same ((k.2.2 o ho hc).trans ho.symm)
end
section
open Go.RowKit Go.Shelf
attribute [local go_sem] Oper.semAt_some
end
section
open Go.ChangeShapes Go.WideShapes Go.ChangeAt Go.RowKit
section
variable {H : Type} {enc : TypeId × Value -> H} {w : World} {base : Nat} {spare : Nat -> Bool} {held : Bool} {fuel : Nat} {cs : List Value} {x : DataW H × List MemPlace}
theorem zbt {α : Type} {t e : TypeId} {k : Nat} (ht : Tryz.prog.underlying t = some (.slice e)) (hc : Tryz.prog.cellsOf e = k) (R : α -> List Value -> Prop) (dflt : α)
    (hR : ∀ {fuel : Nat} {cs : List Value} {y : DataW H × List MemPlace}, DataW.trod enc Tryz.prog w base spare held fuel e cs = some y -> ∃ z, R z cs)
    (h : DataW.trod enc Tryz.prog w base spare held fuel t cs = some x) :
    ∃ A n c, ∃ xs : List α, cs = [.slice A n c] /\ xs.length = n /\ n <= c /\ (xs ≠ [] -> ∃ ad, A = some ad /\ ∀ i (_ : i < xs.length), ∃ es, R xs[i] es /\ es.length = k /\ ∀ j, j < k -> w.cell? (ad.add (i * k + j)) = es[j]?) := by
 rcases DataW.trod_slice ht h with ⟨hcs, _⟩ | ⟨a, len, cap, elems, rest, n, _, hcs, _, _, hl, _, hlen, hel, _⟩
 · exact ⟨none, 0, 0, [], hcs, rfl, Nat.le_refl _, fun h => absurd rfl h⟩
 · rw [hc] at hel
   have each : ∀ i, i < len -> ∃ z es, R z es /\ es.length = k /\ ∀ j, j < k -> w.cell? (a.add (i * k + j)) = es[j]? := by
    intro i hi
    have hE := hel i hi
    have hi' : i < elems.length := by omega
    rw [List.getElem?_eq_getElem hi'] at hE
    simp only [Option.bind_eq_some_iff] at hE
    obtain ⟨cs', hc', ht⟩ := hE
    obtain ⟨z, hz⟩ := hR ht
    obtain ⟨h1, _, hat⟩ := World.cells?_some hc'
    refine ⟨z, cs', hz, by omega, fun j hj => ?_⟩
    rw [<- Go.Deep.add_add]
    exact hat j hj
   let ops : List α := (List.range len).map fun i => if h : i < len then (each i h).choose else dflt
   have hops : ops.length = len := by simp [ops]
   refine ⟨some a, len, cap, ops, hcs, hops, hl, fun _ => ⟨a, rfl, fun i hi => ?_⟩⟩
   have hi' : i < len := by omega
   have e : ops[i] = (each i hi').choose := by simp [ops, hi']
   rw [e]
   exact (each i hi').choose_spec
end
end
section
open Go.ChangeShapes Go.WideShapes Go.ChangeAt Go.RowKit
def zdz (w : World) (A : Option Addr) (ps : List (List UInt8)) : Prop := ps ≠ [] -> ∃ ad, A = some ad /\ ∀ j (_ : j < ps.length), ∃ B c, w.cell? (ad.add j) = some (.slice B ps[j].length c) /\ ps[j].length <= c /\ zt w B ps[j]
section
variable {H : Type} {enc : TypeId × Value -> H} {w : World} {base : Nat} {spare : Nat -> Bool} {held : Bool} {fuel : Nat} {cs : List Value} {x : DataW H × List MemPlace}
end
theorem zdz.grown {w w' : World} {A : Option Addr} {ps : List (List UInt8)} (h : zdz w A ps) (hg : w.grownBy w' none) : zdz w' A ps := fun hne => by
 obtain ⟨ad, e, hat⟩ := h hne
 refine ⟨ad, e, fun j hj => ?_⟩
 obtain ⟨B, c, h1, h2, h3⟩ := hat j hj
 exact ⟨B, c, hg.cell h1 (by simp), h2, h3.grown hg (by simp)⟩
theorem zdz.get {w : World} {A : Option Addr} {ps : List (List UInt8)} (h : zdz w A ps) (k : Nat) (hk : k < ps.length) : ∃ ad B c, A = some ad /\ w.cell? (ad.add k) = some (.slice B (ps.getD k []).length c) /\ (ps.getD k []).length <= c /\ zt w B (ps.getD k []) := by
 obtain ⟨ad, e, hat⟩ := h (by intro e; rw [e] at hk; simp at hk)
 obtain ⟨B, c, h1, h2, h3⟩ := hat k hk
 have : ps.getD k [] = ps[k] := by simp [List.getD, hk]
 rw [this]
 exact ⟨ad, B, c, e, h1, h2, h3⟩
end
end Go.Proofs.YtigafnbofmiknaaGreatDoor
