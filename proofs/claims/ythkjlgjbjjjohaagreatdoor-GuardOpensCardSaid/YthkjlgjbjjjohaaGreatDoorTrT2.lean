/-
  Several texts in one: Rt, TrG, TrL, TrR.
-/
import Derived.Test.YthkjlgjbjjjohaaGreatDoorBaseA
import Derived.Test.YthkjlgjbjjjohaaGreatDoorTrT1
import Derived.Laws.MakeOwn
/-
  A range over a function whose elements are told with a fact of the memory at hand: the contract of such an iterator, and the law of the statement.
-/

namespace Go.Proofs.YthkjlgjbjjjohaaGreatDoor
open Go.RowKit Go.Shelf

/-- The iterator's contract: a round is asked only where the element's fact holds in the world at hand. -/
def SeqTold {α : Type} (F : Fence) (n : Nat) (P : Program) (gf : Nat) (lb : Array Value) (encs : α → Array Value) (Kp : α → World → World → Prop) (Phi : List α → (World → Prop) → α → World → Prop) (S Sp : List α → Prop) (w0 : World) : Prop :=
  ∀ (l : Nat) (J Jx : List α → World → Prop) (W : World), Below w0.heap.size w0 W → AbidesFrom W.heap.size J → AbidesFrom W.heap.size Jx →
    (∀ pre x V, J pre V → Phi pre (J pre) x V → YieldAt F (n - 1) P l (encs x) V fun e V' => (e = .returned (.bool true) ∧ J (pre ++ [x]) V' ∧ Kp x V V') ∨ (e = .returned (.bool false) ∧ Jx (pre ++ [x]) V')) →
    J [] W → CallsIn F n P gf (#[.func (.yield l) #[] #[]] ++ lb) W fun e V => (∃ v, e = .returned v) ∧ ((∃ xs, S xs ∧ J xs V) ∨ (∃ pre, Sp pre ∧ Jx pre V))

section
variable {α : Type} {F : Fence} {n : Nat} {P : Program} {ps : Array Tmp} {assign body : Code} {a : Act} {w w0 : World}
/-- The record of the loop under way. -/
def recOf (fn : FuncId) (tmps : Array Value) (ps : Array Tmp) (assign body : Code) (B : Nat) (st : LoopState) (pe : Option Code) : Loop := { state := st, pending := pe, fn, tmps, params := ps, assign, body, defers := B }
/-- What the book-keeping says at rest: the record is so, the block for the rounds' deferred calls is empty. -/
def AtRest (fn : FuncId) (tmps : Array Value) (ps : Array Tmp) (assign body : Code) (B : Nat) (st : LoopState) (pe : Option Code) (W : World) : Prop :=
  W.heap[B + 1]? = some (.loop (recOf fn tmps ps assign body B st pe)) ∧ W.heap[B]? = some (.deferred (some []))
theorem AtRest.keeps {fn : FuncId} {tmps : Array Value} {B : Nat} {st : LoopState} {pe : Option Code} {V W : World} (h : AtRest fn tmps ps assign body B st pe V) (k : KeepsFrom B V W) : AtRest fn tmps ps assign body B st pe W :=
  ⟨k.same _ _ (Nat.le_succ B) h.1 rfl, k.same _ _ (Nat.le_refl B) h.2 rfl⟩
theorem AtRest.turn {fn : FuncId} {tmps : Array Value} {B : Nat} {st st' : LoopState} {pe pe' : Option Code} {W : World} (h : AtRest fn tmps ps assign body B st pe W) : AtRest fn tmps ps assign body B st' pe' (W.putObj (B + 1) (.loop (recOf fn tmps ps assign body B st' pe'))) :=
  ⟨World.putObj_heap_same (Array.getElem?_eq_some_iff.1 h.1).1, (World.putObj_heap_other (by omega)).trans h.2⟩
theorem AtRest.abides {fn : FuncId} {tmps : Array Value} {B D : Nat} {st : LoopState} {pe : Option Code} {V W : World} {row : Option Nat} (h : AtRest fn tmps ps assign body B st pe V) (hg : V.grownBy W row) (hr : ∀ r, row = some r → D ≤ r ∧ ∃ o : Obj, V.heap[r]? = some o ∧ o.isWalk = true) : AtRest fn tmps ps assign body B st pe W :=
  ⟨(grownBy_keeps hg (fun r e => (hr r e).2) h.1 rfl).trans h.1, (grownBy_keeps hg (fun r e => (hr r e).2) h.2 rfl).trans h.2⟩

theorem wpIn_rangeFunc_told {g : Operand} {Q : Exit → Act → World → Prop}
    (hro : F.round = none) (h1 : 1 ≤ n) {gf : Nat} {lb : Array Value} (hg : a.eval g = .func (.func gf) #[] lb) (hFg : F.fn gf) (eg : ∀ args w, (callFunc gf args).run P w = .ok (.enter gf args) w)
    {encs : α → Array Value} {Kp : α → World → World → Prop} {Phi : List α → (World → Prop) → α → World → Prop} {S Sp : List α → Prop} (hseq : SeqTold F (n - 1) P gf lb encs Kp Phi S Sp w0)
    (hKt : ∀ {x : α} {A B C : World}, Kp x A B → Kp x B C → Kp x A C) (hKb : ∀ (x : α) (W : World) (l : Nat) (o o' : Obj), w.heap.size ≤ l → W.heap[l]? = some o → o.isCells = false → o.isWalk = false → Kp x W (W.putObj l o')) (hPhi : ∀ pre (p q : World → Prop) x V, (∀ U, p U → q U) → Phi pre p x V → Phi pre q x V) (hb0 : Below w0.heap.size w0 w) (hps : ∀ x, (encs x).size = ps.size)
    (I : List α → World → Prop) (Ix : Code → List α → World → Prop) (hI : OwnFrom w.heap.size I) (hIx : ∀ c, OwnFrom w.heap.size (Ix c)) (h0 : I [] w)
    (Ax : List α → α → Act → World → Prop) (hAx : ∀ pre x a', OwnFrom w.heap.size (fun (_ : Unit) W => Ax pre x a' W))
    (hassign : ∀ (l : Nat) (pre : List α) (x : α) (W : World) (K : Act → World → Prop), I pre W → Phi pre (I pre) x W → (∀ a' W', KeepsFrom w.heap.size W W' → Kp x W W' → I pre W' → Ax pre x a' W' → K a' W') →
      assign.wpIn (F.inRound l) (n - 1 - 1) P (Exit.then K (fun _ _ _ => False)) { tmps := (ps.zip (encs x)).foldl (fun t (p, v) => t.setIfInBounds p v) a.tmps, defers := [] } W)
    (hbody : ∀ (l : Nat) (pre : List α) (x : α) (a' : Act) (W : World), w.heap.size ≤ l → (∃ r, W.heap[l]? = some (.loop r)) → I pre W → Ax pre x a' W → body.wpIn (F.inRound l) (n - 1 - 1) P (ownPostG w.heap.size (Kp x) I Ix (pre ++ [x]) W) a' W)
    (hdone : ∀ (D : Nat) (xs : List α) (W : World), w.heap.size ≤ D → S xs → I xs W → W.heap[D]? = some (.deferred (some [])) → Q .normal { a with defers := { target := .collected D, args := #[] } :: a.defers } W)
    (hstop : ∀ (D : Nat) (c : Code) (pre : List α) (W : World), w.heap.size ≤ D → Sp pre → Ix c pre W → W.heap[D]? = some (.deferred (some [])) → c.wpIn F n P Q { a with defers := { target := .collected D, args := #[] } :: a.defers } W) :
    (Code.rangeFunc g ps assign body).wpIn F n P Q a w := by
  refine wpIn_rangeFunc fun fn hfn => ?_
  rw [hro]
  have hnew : AtRest fn a.tmps ps assign body w.heap.size .ready none ((w.alloc (.deferred (some []))).alloc (.loop (recOf fn a.tmps ps assign body w.heap.size .ready none))) := by
    have h2 := World.alloc_heap_new (w.alloc (.deferred (some []))) (.loop (recOf fn a.tmps ps assign body w.heap.size .ready none))
    rw [World.size_alloc] at h2
    exact ⟨h2, (Below.heap_alloc _ _ _ (by simp)).trans (World.alloc_heap_new w _)⟩
  have hsz : w.heap.size + 2 = ((w.alloc (.deferred (some []))).alloc (.loop (recOf fn a.tmps ps assign body w.heap.size .ready none))).heap.size := by simp
  have hI1 : I [] ((w.alloc (.deferred (some []))).alloc (.loop (recOf fn a.tmps ps assign body w.heap.size .ready none))) := hI.alloc _ (hI.alloc _ h0)
  have hb1 : Below w0.heap.size w0 ((w.alloc (.deferred (some []))).alloc (.loop (recOf fn a.tmps ps assign body w.heap.size .ready none))) :=
    hb0.trans ((((Below.refl _ w).alloc (Nat.le_refl _) _).alloc (by simp) _).mono hb0.size)
  have hen : (Instr.enterLoop fn a.tmps ps assign body none).run P w = .ok (w.heap.size + 1, [{ target := .collected w.heap.size, args := #[] }]) ((w.alloc (.deferred (some []))).alloc (.loop (recOf fn a.tmps ps assign body w.heap.size .ready none))) := run_enterLoop_outer _ _ _ _ _
  generalize (w.alloc (.deferred (some []))).alloc (.loop (recOf fn a.tmps ps assign body w.heap.size .ready none)) = W1 at *
  refine ⟨w.heap.size + 1, [{ target := .collected w.heap.size, args := #[] }], W1, { target := .fn (.func gf) lb, args := #[.func (.yield (w.heap.size + 1)) #[] #[]] }, W1, gf,
    #[.func (.yield (w.heap.size + 1)) #[] #[]] ++ lb, W1, hen, ?_, ?_, ?_, fun _ => h1, ?_⟩
  · simp only [resolve, hg]; simp [go_sem]
  · intro f' hf'; simp [Target.leads] at hf'; subst hf'; exact hFg
  · simp [invoke, go_sem, eg]
  have hcells : ∀ {A : World} {row : Option Nat}, (∀ r, row = some r → W1.heap.size ≤ r ∧ ∃ o : Obj, A.heap[r]? = some o ∧ o.isWalk = true) → (∀ r, row = some r → w.heap.size ≤ r ∧ ∃ o : Obj, A.heap[r]? = some o ∧ o.isCells = false) := fun hr r e => by
    obtain ⟨hB, o, ho, hw⟩ := hr r e
    exact ⟨by omega, o, ho, Obj.not_cells_of_walk hw⟩
  refine (hseq (w.heap.size + 1) (fun pre W => I pre W ∧ AtRest fn a.tmps ps assign body w.heap.size .ready none W) (fun pre W => ∃ c, Ix c pre W ∧ AtRest fn a.tmps ps assign body w.heap.size .done (some c) W) W1 hb1
    (fun s A B row hs hg' hr => ⟨hI s A B row hs.1 hg' (hcells hr), hs.2.abides hg' hr⟩)
    (fun s A B row hs hg' hr => by obtain ⟨c, hc, hk⟩ := hs; exact ⟨c, hIx c s A B row hc hg' (hcells hr), hk.abides hg' hr⟩) ?_ ⟨hI1, hnew⟩).mono ?_
  · rintro pre x V ⟨hi, hat⟩ hphi
    refine ⟨fn, _, assign, body, run_yield hat.1 (hps x), roundIn_of_wpIn hfn (hassign _ pre x V _ hi (hPhi _ _ _ _ _ (fun _ h => h.1) hphi) fun a' W hk1 hkp1 hi1 hax => ?_)⟩
    have hat1 := hat.keeps hk1
    have hlt := (Array.getElem?_eq_some_iff.1 hat1.1).1
    refine ⟨_, run_beginRound hat1.1 rfl, ?_⟩
    have hat2 : AtRest fn a.tmps ps assign body w.heap.size .busy none (W.putObj (w.heap.size + 1) (.loop (recOf fn a.tmps ps assign body w.heap.size .busy none))) := hat1.turn
    have hkp2 := hKb x W (w.heap.size + 1) _ (.loop (recOf fn a.tmps ps assign body w.heap.size .busy none)) (Nat.le_succ _) hat1.1 rfl rfl
    refine wpIn_mono (hbody _ pre x a' _ (Nat.le_succ _) ⟨_, hat2.1⟩ (hI.putObj _ hi1 (Nat.le_succ _) hat1.1 rfl) ((hAx pre x a').putObj (s := ()) _ hax (Nat.le_succ _) hat1.1 rfl)) ?_
    rintro e a3 W3 hp
    cases e with
    | normal =>
      obtain ⟨hk3, hkp3, hi3⟩ := hp
      have hat3 := hat2.keeps hk3
      exact ⟨_, _, run_endRound none hat3.1, .inl ⟨rfl, ⟨hI.putObj _ hi3 (Nat.le_succ _) hat3.1 rfl, hat3.turn (st' := .ready) (pe' := none)⟩, hKt hkp1 (hKt (hKt hkp2 hkp3) (hKb _ _ _ _ _ (Nat.le_succ _) hat3.1 rfl rfl))⟩⟩
    | ret =>
      obtain ⟨hk3, hi3⟩ := hp
      have hat3 := hat2.keeps hk3
      exact ⟨_, _, run_endRound (some .ret) hat3.1, .inr ⟨rfl, .ret, (hIx _).putObj _ hi3 (Nat.le_succ _) hat3.1 rfl, hat3.turn (st' := .done) (pe' := some .ret)⟩⟩
    | exit id =>
      obtain ⟨hk3, hi3⟩ := hp
      have hat3 := hat2.keeps hk3
      exact ⟨_, _, run_endRound (some (.exit id)) hat3.1, .inr ⟨rfl, .exit id, (hIx _).putObj _ hi3 (Nat.le_succ _) hat3.1 rfl, hat3.turn (st' := .done) (pe' := some (.exit id))⟩⟩
    | goto t =>
      obtain ⟨hk3, hi3⟩ := hp
      have hat3 := hat2.keeps hk3
      exact ⟨_, _, run_endRound (some (.goto t)) hat3.1, .inr ⟨rfl, .goto t, (hIx _).putObj _ hi3 (Nat.le_succ _) hat3.1 rfl, hat3.turn (st' := .done) (pe' := some (.goto t))⟩⟩
    | panic ch => exact hp.elim
    | outgrown => exact hp.elim
  · rintro e W2 ⟨⟨v, rfl⟩, (⟨xs, hS, hi, hat⟩ | ⟨pre, hSp, c, hi, hat⟩)⟩
    · exact ⟨none, _, run_endLoop hat.1 (by simp [recOf]), hdone _ xs _ (Nat.le_refl _) hS (hI.putObj _ hi (Nat.le_succ _) hat.1 rfl) ((World.putObj_heap_other (by omega)).trans hat.2)⟩
    · exact ⟨some c, _, run_endLoop hat.1 (by simp [recOf]), hstop _ c pre _ (Nat.le_refl _) hSp ((hIx c).putObj _ hi (Nat.le_succ _) hat.1 rfl) ((World.putObj_heap_other (by omega)).trans hat.2)⟩
end
end Go.Proofs.YthkjlgjbjjjohaaGreatDoor
/-
  trees.above: the level above digests.
-/
namespace Go.Proofs.YthkjlgjbjjjohaaGreatDoor
open Go.RowKit

/-- The level above. -/
def aboveC (ps : List (List Int)) : List (List Int) := upto (pairC ps) (ps.length / 2)
theorem aboveC_length (ps : List (List Int)) : (aboveC ps).length = ps.length / 2 := upto_length _ _
theorem upto_get {f : Nat → List Int} {n k : Nat} (h : k < n) : (upto f n).getD k zeroC = f k := by
  simp [upto, List.getD, List.getElem?_map, List.getElem?_range h]
theorem aboveC_lev {ps : List (List Int)} {h n m : Nat} (hn : n = 2 * m) : aboveC (levC ps h n) = levC ps (h + 1) m := by
  rw [aboveC, levC_length, hn, show 2 * m / 2 = m by omega]
  show (List.range m).map _ = (List.range m).map _
  refine List.map_congr_left fun k hk => ?_
  have := List.mem_range.1 hk
  exact pairC_lev (by omega)
theorem made_row (m : Nat) (hm : m ≤ 1000) : ∃ M : Array Value, M.size = m * 16 ∧ ∀ V : World, Sem.run Tryz.prog (Instr.makeSlice 71 (.int .i64 (m : Int)) (.int .i64 (m : Int))) V = .ok (.slice (some ⟨V.heap.size, 0, none⟩) m m) (V.alloc (.cells M 23)) := by
  cases hq : Tryz.prog.info? 23 with
  | none => exact absurd info16 (by rw [hq]; simp)
  | some i =>
    have hs : i.size = 16 := by have := info16; simpa [hq] using this
    have hz : ∃ z, i.zero = some z := by
      have : (Tryz.prog.info? 23).bind (·.zero) = some (.agg (arrV .u8 (List.replicate 16 0))) := by kernel_rfl
      exact ⟨_, by simpa [hq] using this⟩
    have hb : i.bytes = 16 := by
      have : (Tryz.prog.info? 23).map (·.bytes) = some 16 := by kernel_rfl
      simpa [hq] using this
    obtain ⟨z, hz⟩ := hz
    exact ⟨madeCells z.cells (m * 16), size_madeCells _ _, fun V => by
      have := run_make (P := Tryz.prog) V 71 23 i z Tryz.underlying71 hq hz .i64 .i64 m m (by omega) (by omega) (by rw [hb]; omega) (by omega)
      rw [hs, Int.toNat_natCast] at this
      exact this⟩
theorem wpList_make_run {P : Program} {ops : Array Oper} {rest : List Oper} {o : Oper} {a : Act} {w w' : World} {Q : Exit → Act → World → Prop} (hg : o.guard = none) (t : TypeId) (l c : Operand) (ho : o.op = .makeSlice t l c) (vl vc V : Value) (hl : a.eval l = vl) (hc : a.eval c = vc)
    (hr : Sem.run P (Instr.makeSlice t vl vc) w = .ok V w') (h : wpList P ops Q rest (a.put o.dst V) w') : wpList P ops Q (o :: rest) a w :=
  wpList_plain hg fun K hK => by
    unfold Oper.wp execOp
    simp only [ho, hl, hc, Sem.run_bind, hr, Result.andThen_ok]
    exact hK _ _ h

/-- So many digests lie one behind the other. -/
def RowsAt (W : World) (g k : Nat) (f : Nat → List Int) : Prop := ∀ j, j < k → W.rangeAt g (j * 16) (arrV .u8 (f j)).toList
theorem above_done {W : World} {g m N : Nat} {ps : List (List Int)} (hl : ps.length = N) (hN : N = 2 * m) (h : RowsAt W g m (pairC ps)) : DigsAt W g 0 (aboveC ps) := by
  have hm : ps.length / 2 = m := by omega
  intro j hj
  rw [aboveC_length, hm] at hj
  rw [aboveC, hm, upto_get hj, Nat.zero_add]
  exact h j hj
theorem ranges_to {wr w9 : World} {g k : Nat} {f : Nat → List Int} (h : RowsAt wr g k f) (hg : wr.grownBy w9 none) : RowsAt w9 g k f := fun j hj => range_to (h j hj) hg (by simp)
/-- One more digest is stored in a row of them. -/
theorem store_next {w9 : World} {g m k : Nat} {f : Nat → List Int} {js : Array Value} (hT9 : w9.there g 0 (m * 16)) (hr : RowsAt w9 g k f) (hf : ∀ j, (f j).length = 16) (hjs : js = arrV .u8 (f k)) (hk : k < m) (a : Nat) (ha : a = k * 16) :
    (w9.setCells g a js.toList).there g 0 (m * 16) ∧ RowsAt (w9.setCells g a js.toList) g (k + 1) f := by
  have l2 : js.toList.length = 16 := by rw [hjs, Array.length_toList, arr_size]; exact hf k
  refine ⟨World.there_setCells hT9 _ _ _, fun j hj => ?_⟩
  have l1 : (arrV .u8 (f j)).toList.length = 16 := by rw [Array.length_toList, arr_size]; exact hf j
  by_cases hjk : j = k
  · have e1 : (arrV .u8 (f j)).toList = js.toList := by rw [hjk, hjs]
    have e2 : j * 16 = a := by rw [hjk, ha]
    rw [e1, e2]
    exact World.rangeAt_setCells_same w9 g a js.toList (there_sub hT9 (by omega) (by rw [l2, ha]; omega))
  · exact World.rangeAt_setCells_apart (hr j (by omega)) _ _ _ (.inr (by rw [l1, l2]; omega))

set_option maxRecDepth 100000 in
set_option maxHeartbeats 4000000 in
theorem above_is (w : World) (hR : Rounds w) (b off N c m : Nat) (ps : List (List Int)) (hl : ps.length = N) (hN : N = 2 * m) (hm : m ≤ 1000) (hm0 : 0 < m) (hps : ∀ p ∈ ps, isDig p) (hD : DigsAt w b off ps) :
    Calls Tryz.prog 109 #[.slice (some ⟨b, off, none⟩) N c] w fun e w' => ∃ g, e = .returned (.slice (some ⟨g, 0, none⟩) m m) ∧ w.heap.size ≤ g ∧ w'.there g 0 (m * 16) ∧ DigsAt w' g 0 (aboveC ps) ∧ w.grownBy w' none := by
  obtain ⟨M, hMs, hmk⟩ := made_row m hm
  have hquo : (N : Int).tdiv 2 = (m : Int) := by rw [Int.tdiv_eq_ediv_of_nonneg (by omega)]; omega
  have hquo2 : (N : Int) / 2 = (m : Int) := by omega
  have HW := Lib.hid (show wrap64 (m : Int) = (m : Int) from w64 _ (by omega))
  have hbw : b < w.heap.size := by
    have h0 := hD 0 (by omega)
    have hl0 := (getD_dig hps 0).1
    have := h0 0 (.int .u8 ((ps.getD 0 zeroC).getD 0 0)) (by rw [Array.getElem?_toList]; exact arr_get (by omega))
    exact World.block_lt_of_cell? w _ this
  have HM := Lib.hid (And.intro hMs hmk)
  have HN := Lib.hid (And.intro hl (And.intro hN (And.intro hm (And.intro hps (And.intro hD (And.intro hR hm0))))))
  clear hMs hmk hl hm hps hD hR hm0 hN
  go_enter Tryz.func109, Tryz.ntmps109
  go_wp2_with (refine wpList_make_run rfl 71 _ _ rfl (.int .i64 (wrap64 (m : Int))) (.int .i64 (wrap64 (m : Int))) _ rfl rfl (by rw [HW.out]; exact HM.out.2 _) ?_)
  have c1 := Blk.new w 23 M
  have hg1 := World.grownBy_alloc w (.cells M 23) none
  have hs1 : w.heap.size < (w.alloc (.cells M 23)).heap.size := c1.lt
  generalize w.alloc (.cells M 23) = w1 at *
  have HF := Lib.hid (And.intro c1 hg1)
  have hN := HN.out.2.1
  clear c1 hg1 hquo hquo2
  go_loopw [11] (fun i wr => ∃ k : Nat, k ≤ m ∧ i = .int .i64 (k : Int) ∧ wr.there w.heap.size 0 (m * 16) ∧ RowsAt wr w.heap.size k (pairC ps) ∧ w1.grownBy wr (some w.heap.size)) (fun i _ => m - (intOf i).toNat)
  case atStart => exact ⟨0, by omega, rfl, there_blk HF.out.1 (Nat.le_of_eq HM.out.1.symm), fun j hj => absurd hj (by omega), World.grownBy.refl w1 _⟩
  case round =>
    obtain ⟨k, hk, hi, hT, hRg, hG⟩ := hrel
    obtain ⟨I, hI⟩ : ∃ I : Int, I = (k : Int) := ⟨_, rfl⟩
    rw [← hI] at hi
    subst hi
    have hGw : w.grownBy wr none := grown_fresh HF.out.2 hG (Nat.le_refl _)
    by_cases hlt : k < m
    · have d1 : decide (I < (m : Int)) = true := by simp; omega
      have hb0 : 0 ≤ I ∧ I < (m : Int) := by omega
      have hb1 : 0 ≤ 2 * I ∧ 2 * I < (N : Int) := by omega
      have hb2 : 0 ≤ 2 * I + 1 ∧ 2 * I + 1 < (N : Int) := by omega
      have hm1000 := HN.out.2.2.1
      have hwI : wrap64 (I + 1) = I + 1 := w64 _ (by omega)
      have hw1 : IntKind.i64.wrap (2 * I) = 2 * I := by rw [IntKind.wrap_i64]; omega
      have hw2 : IntKind.i64.wrap (2 * I + 1) = 2 * I + 1 := by rw [IntKind.wrap_i64]; omega
      have e1 : (2 * I).toNat = 2 * k := by omega
      have e2 : (2 * I + 1).toNat = 2 * k + 1 := by omega
      have hpa := getD_dig HN.out.2.2.2.1 (2 * k)
      have hpb := getD_dig HN.out.2.2.2.1 (2 * k + 1)
      obtain ⟨la, hla⟩ : ∃ l, l = (arrV .u8 (ps.getD (2 * k) zeroC)).toList := ⟨_, rfl⟩
      obtain ⟨lb, hlb⟩ : ∃ l, l = (arrV .u8 (ps.getD (2 * k + 1) zeroC)).toList := ⟨_, rfl⟩
      have ha16 : la.length = 16 := by rw [hla, Array.length_toList, arr_size]; exact hpa.1
      have hb16 : lb.length = 16 := by rw [hlb, Array.length_toList, arr_size]; exact hpb.1
      obtain ⟨js, hjs⟩ : ∃ js, js = arrV .u8 (pairC ps k) := ⟨_, rfl⟩
      have HJS := Lib.hid (show js.size = 16 ∧ (js.all fun v => v.oneCell') = true ∧ js = arrV .u8 (pairC ps k) from ⟨by rw [hjs, arr_size]; exact (pairC_dig _ _).1, by rw [hjs]; exact arr_one _ _, hjs⟩)
      have HL := Lib.hid (show (Tryz.prog.info? 23).map (·.size) = some la.length ∧ (Tryz.prog.info? 23).map (·.size) = some lb.length from ⟨by rw [ha16]; exact info16, by rw [hb16]; exact info16⟩)
      have HSS := Lib.hid (show ∀ V, wr.grownBy V none → V.rangeAt b (off + (2 * I).toNat * 16) la ∧ V.rangeAt b (off + (2 * I + 1).toNat * 16) lb from fun V hV => by
        rw [e1, e2, hla, hlb]
        exact ⟨range_grown (HN.out.2.2.2.2.1 (2 * k) (by rw [HN.out.1]; omega)) (grown_trans hGw hV), range_grown (HN.out.2.2.2.2.1 (2 * k + 1) (by rw [HN.out.1]; omega)) (grown_trans hGw hV)⟩)
      have HJ := Lib.hid (fun (V : World) (hV : wr.grownBy V none) => join_is V (HN.out.2.2.2.2.2.1.grown (grown_trans hGw hV) (by simp)) _ _ hpa hpb la.toArray lb.toArray js (by rw [hla, Array.toArray_toList]) (by rw [hlb, Array.toArray_toList]) (by rw [hjs, pairC]))
      have HK := Lib.hid (And.intro hI (And.intro hlt (And.intro hT (And.intro hRg hG))))
      clear hlt hT hRg hG hGw hk hla hlb ha16 hb16 hjs hpa hpb e1 e2 hI hN
      go_wp2_with fail
      refine wp_region_held_drew (S := fun V => V.rangeAt b (off + (2 * I).toNat * 16) la ∧ V.rangeAt b (off + (2 * I + 1).toNat * 16) lb) (by kernel_rfl) (HSS.out _ (grown_drew (World.grownBy.refl wr none))) (fun hHeld => ?_)
      refine wpAnyH_take (i := 0) (oi := _) (v := ?v0) rfl (by kernel_rfl) (by kernel_rfl) (by kernel_rfl) (fun _ _ _ h => h) (Or.inl ⟨by rfl, ?hy0⟩) (by assumption) ?rest0
      case hy0 => (intro V hSw; (try dsimp only at hSw); go_simp) <;> with_reducible rfl
      simp only [Act.put, List.getElem_toArray, List.getElem_cons_zero, List.setIfInBounds_toArray, List.set_cons_zero, List.set_cons_succ]
      refine wpAnyH_take (i := 1) (oi := _) (v := ?v1) rfl (by kernel_rfl) (by kernel_rfl) (by kernel_rfl) (fun _ _ _ h => h) (Or.inl ⟨by rfl, ?hy1⟩) (by assumption) ?rest1
      case hy1 => (intro V hSw; (try dsimp only at hSw); go_simp) <;> with_reducible rfl
      simp only [Act.put, List.getElem_toArray, List.getElem_cons_succ, List.getElem_cons_zero, List.setIfInBounds_toArray, List.set_cons_zero, List.set_cons_succ]
      refine wpAnyH_take (i := 2) (oi := _) (v := ?v2) rfl (by kernel_rfl) (by kernel_rfl) (by kernel_rfl) (fun _ _ _ h => h) (Or.inl ⟨by rfl, ?hy2⟩) (by assumption) ?rest2
      case hy2 => (intro V hSw; (try dsimp only at hSw); go_simp) <;> with_reducible rfl
      simp only [Act.put, List.getElem_toArray, List.getElem_cons_succ, List.getElem_cons_zero, List.setIfInBounds_toArray, List.set_cons_zero, List.set_cons_succ]
      refine wpAnyH_take (i := 3) (oi := _) (v := ?v3) rfl (by kernel_rfl) (by kernel_rfl) (by kernel_rfl) (fun _ _ _ h => h) (Or.inl ⟨by rfl, ?hy3⟩) (by assumption) ?rest3
      case hy3 => (intro V hSw; (try dsimp only at hSw); go_simp) <;> with_reducible rfl
      simp only [Act.put, List.getElem_toArray, List.getElem_cons_succ, List.getElem_cons_zero, List.setIfInBounds_toArray, List.set_cons_zero, List.set_cons_succ]
      refine wpAnyH_take (i := 4) (oi := _) (v := ?v4) rfl (by kernel_rfl) (by kernel_rfl) (by kernel_rfl) (fun _ _ _ h => h) (Or.inl ⟨by rfl, ?hy4⟩) (by assumption) ?rest4
      case hy4 => (intro V hSw; (try dsimp only at hSw); go_simp) <;> with_reducible rfl
      simp only [Act.put, List.getElem_toArray, List.getElem_cons_succ, List.getElem_cons_zero, List.setIfInBounds_toArray, List.set_cons_zero, List.set_cons_succ]
      refine wpAnyH_take (i := 5) (oi := _) (v := ?v5) rfl (by kernel_rfl) (by kernel_rfl) (by kernel_rfl) (fun _ _ _ h => h) (Or.inl ⟨by rfl, ?hy5⟩) (by assumption) ?rest5
      case hy5 => (intro V hSw; (try dsimp only at hSw); go_simp) <;> with_reducible rfl
      simp only [Act.put, List.getElem_toArray, List.getElem_cons_succ, List.getElem_cons_zero, List.setIfInBounds_toArray, List.set_cons_zero, List.set_cons_succ]
      refine wpAnyH_take (i := 6) (oi := _) (v := .agg la.toArray) rfl (by kernel_rfl) (by kernel_rfl) (by kernel_rfl) (fun _ _ _ h => h) (yieldsIf_load_mid (by rfl) _ _ rfl b (off + (2 * I).toNat * 16) rfl la _ (fun V hSw => hSw.1) Tryz.underlying23 rfl HL.out.1) (by assumption) ?rest6
      simp only [Act.put, List.getElem_toArray, List.getElem_cons_succ, List.getElem_cons_zero, List.setIfInBounds_toArray, List.set_cons_zero, List.set_cons_succ]
      refine wpAnyH_take (i := 7) (oi := _) (v := ?v7) rfl (by kernel_rfl) (by kernel_rfl) (by kernel_rfl) (fun _ _ _ h => h) (Or.inl ⟨by rfl, ?hy7⟩) (by assumption) ?rest7
      case hy7 => (intro V hSw; (try dsimp only at hSw); go_simp) <;> with_reducible rfl
      simp only [Act.put, List.getElem_toArray, List.getElem_cons_succ, List.getElem_cons_zero, List.setIfInBounds_toArray, List.set_cons_zero, List.set_cons_succ]
      refine wpAnyH_take (i := 8) (oi := _) (v := ?v8) rfl (by kernel_rfl) (by kernel_rfl) (by kernel_rfl) (fun _ _ _ h => h) (Or.inl ⟨by rfl, ?hy8⟩) (by assumption) ?rest8
      case hy8 => (intro V hSw; (try dsimp only at hSw); go_simp) <;> with_reducible rfl
      simp only [Act.put, List.getElem_toArray, List.getElem_cons_succ, List.getElem_cons_zero, List.setIfInBounds_toArray, List.set_cons_zero, List.set_cons_succ]
      refine wpAnyH_take (i := 9) (oi := _) (v := ?v9) rfl (by kernel_rfl) (by kernel_rfl) (by kernel_rfl) (fun _ _ _ h => h) (Or.inl ⟨by rfl, ?hy9⟩) (by assumption) ?rest9
      case hy9 => (intro V hSw; (try dsimp only at hSw); go_simp) <;> with_reducible rfl
      simp only [Act.put, List.getElem_toArray, List.getElem_cons_succ, List.getElem_cons_zero, List.setIfInBounds_toArray, List.set_cons_zero, List.set_cons_succ]
      refine wpAnyH_take (i := 10) (oi := _) (v := ?v10) rfl (by kernel_rfl) (by kernel_rfl) (by kernel_rfl) (fun _ _ _ h => h) (Or.inl ⟨by rfl, ?hy10⟩) (by assumption) ?rest10
      case hy10 => (intro V hSw; (try dsimp only at hSw); go_simp) <;> with_reducible rfl
      simp only [Act.put, List.getElem_toArray, List.getElem_cons_succ, List.getElem_cons_zero, List.setIfInBounds_toArray, List.set_cons_zero, List.set_cons_succ]
      refine wpAnyH_take (i := 11) (oi := _) (v := ?v11) rfl (by kernel_rfl) (by kernel_rfl) (by kernel_rfl) (fun _ _ _ h => h) (Or.inl ⟨by rfl, ?hy11⟩) (by assumption) ?rest11
      case hy11 => (intro V hSw; (try dsimp only at hSw); go_simp) <;> with_reducible rfl
      simp only [Act.put, List.getElem_toArray, List.getElem_cons_succ, List.getElem_cons_zero, List.setIfInBounds_toArray, List.set_cons_zero, List.set_cons_succ]
      refine wpAnyH_take (i := 12) (oi := _) (v := .agg lb.toArray) rfl (by kernel_rfl) (by kernel_rfl) (by kernel_rfl) (fun _ _ _ h => h) (yieldsIf_load_mid (by rfl) _ _ rfl b (off + (2 * I + 1).toNat * 16) rfl lb _ (fun V hSw => hSw.2) Tryz.underlying23 rfl HL.out.2) (by assumption) ?rest12
      simp only [Act.put, List.getElem_toArray, List.getElem_cons_succ, List.getElem_cons_zero, List.setIfInBounds_toArray, List.set_cons_zero, List.set_cons_succ]
      refine wpAnyH_ready (rs := [13]) (by kernel_rfl) (by simp) ?_
      refine AllReadyH.cons (o := _) rfl (fun K hK => ?_) AllReadyH.nil
      go_simp
      refine (HJ.out _ (grown_drew (World.grownBy.refl wr none))).mono ?_
      rintro e w9 ⟨rfl, hk9⟩
      have HK9 := Lib.hid (grown_trans (grown_drew (World.grownBy.refl wr none)) hk9)
      clear hk9
      go_wp2_with fail
      refine hK.out _ _ (HSS.out _ HK9.out) (fun hHeld => ?_)
      clear hK K
      try simp only [Act.put, List.setIfInBounds_toArray, List.set_cons_zero, List.set_cons_succ]
      refine wpAnyH_take (i := 14) (oi := _) (v := ?v14) rfl (by kernel_rfl) (by kernel_rfl) (by kernel_rfl) (fun _ _ _ h => h) (Or.inl ⟨by rfl, ?hy14⟩) (by assumption) ?rest14
      case hy14 => (intro V hSw; (try dsimp only at hSw); go_simp) <;> with_reducible rfl
      simp only [Act.put, List.getElem_toArray, List.getElem_cons_succ, List.getElem_cons_zero, List.setIfInBounds_toArray, List.set_cons_zero, List.set_cons_succ]
      refine wpAnyH_ready (rs := [15]) (by kernel_rfl) (by simp) ?_
      refine AllReadyH.cons (o := _) rfl (fun K hK => ?_) AllReadyH.nil
      rw [if_pos (by rfl)]
      have hT9 := there_to HK.out.2.2.1 HK9.out (by simp)
      have hkI : I = (k : Int) := HK.out.1
      refine wp_store_mid _ _ _ rfl w.heap.size (I.toNat * 16) js rfl rfl (there_sub hT9 (by omega) (by have := HJS.out.1; omega)) (by rw [HJS.out.1]; exact info16) HJS.out.2.1 ?_
      refine hK.out _ _ ⟨World.rangeAt_setCells_apart (HSS.out _ HK9.out).1 _ _ _ (.inl (by omega)), World.rangeAt_setCells_apart (HSS.out _ HK9.out).2 _ _ _ (.inl (by omega))⟩ (fun _ => ?_)
      refine wpAnyH_done (by kernel_rfl) ?_ _
      have hG6 : wr.grownBy (w9.setCells w.heap.size (I.toNat * 16) js.toList) (some w.heap.size) := grown_setCells w.heap.size _ _ _ (grown_weak HK9.out _)
      have hr1 := ranges_to (f := pairC ps) HK.out.2.2.2.1 HK9.out
      have hs1 : js = arrV .u8 (pairC ps k) := HJS.out.2.2
      have hk1 : k < m := HK.out.2.1
      have ha1 : I.toNat * 16 = k * 16 := by rw [hkI, Int.toNat_natCast]
      have HX := Lib.hid (store_next (f := pairC ps) hT9 hr1 (fun j => (pairC_dig ps j).1) hs1 hk1 (I.toNat * 16) ha1)
      clear hr1 hs1 hk1 ha1
      clear hkI hT9
      go_wp2_with fail
      go_roundw
      case rel =>
        obtain ⟨hI, hlt, _, _, hG⟩ := HK.out
        exact ⟨k + 1, by omega, by rw [hI]; rfl, HX.out.1, HX.out.2, grown_trans hG hG6⟩
      case measure => obtain ⟨hI, hlt, _⟩ := HK.out; simp only [intOf]; omega
    · obtain rfl : k = m := by omega
      have d1 : decide (I < (k : Int)) = false := by simp; omega
      have HK := Lib.hid (And.intro hT (And.intro hRg hGw))
      clear hT hRg hG hGw hlt hk hI
      go_wp2_with fail
      go_ret
      exact ⟨_, rfl, Nat.le_refl _, HK.out.1, above_done HN.out.1 HN.out.2.1 HK.out.2.1, HK.out.2.2⟩
end Go.Proofs.YthkjlgjbjjjohaaGreatDoor
/-
  trees.levels: the levels of a tree, as an iterator.
-/
namespace Go.Proofs.YthkjlgjbjjjohaaGreatDoor
open Go.RowKit Go.Shelf

attribute [local go_sem] Oper.semAt_some

/-- A level that comes: its height, how many digests, where they lie. -/
structure Lev where
  k : Nat
  n : Nat
  g : Nat
  o : Nat
  c : Nat
def levE (x : Lev) : Array Value := #[.int .i64 (x.k : Int), .slice (some ⟨x.g, x.o, none⟩) x.n x.c]
/-- What a round must keep: the table of the rounds, the level's block. -/
def KpL (x : Lev) (A B : World) : Prop := A.heap.size ≤ B.heap.size ∧ (Rounds A → Rounds B) ∧ ∀ o, A.heap[x.g]? = some o → o.isCells = true → B.heap[x.g]? = some o
/-- What is known of a level when it comes. -/
def PhiL (N b : Nat) (ps : List (List Int)) (pre : List Lev) (p : World → Prop) (x : Lev) (V : World) : Prop :=
  x.k = pre.length ∧ x.k ≤ 5 ∧ x.n = 32 / 2 ^ x.k ∧ DigsAt V x.g x.o (levC ps x.k x.n) ∧ (x.g = b ∨ (N ≤ x.g ∧ ∃ U, p U ∧ U.grownBy V none ∧ U.heap.size ≤ x.g))
theorem PhiL.mono {N b : Nat} {ps : List (List Int)} (pre : List Lev) (p q : World → Prop) (x : Lev) (V : World) (h : ∀ U, p U → q U) (k : PhiL N b ps pre p x V) : PhiL N b ps pre q x V :=
  ⟨k.1, k.2.1, k.2.2.1, k.2.2.2.1, k.2.2.2.2.imp id (fun ⟨h1, U, h2, h3⟩ => ⟨h1, U, h U h2, h3⟩)⟩
theorem KpL.trans {x : Lev} {A B C : World} (h : KpL x A B) (k : KpL x B C) : KpL x A C := ⟨Nat.le_trans h.1 k.1, fun r => k.2.1 (h.2.1 r), fun o ho hc => k.2.2 o (h.2.2 o ho hc) hc⟩
theorem KpL.grown {x : Lev} {A B : World} {row : Option Nat} (hg : A.grownBy B row) (hr : row ≠ some 18) (h1 : row ≠ some x.g) : KpL x A B :=
  ⟨hg.size, fun r => r.grown hg (fun e => hr e.symm), fun o ho _ => (hg.block x.g (Array.getElem?_eq_some_iff.1 ho).1 (fun e => h1 e.symm)).trans ho⟩
theorem KpL.put {x : Lev} {W : World} {l : Nat} {o o' : Obj} (hl : 18 < l) (ho : W.heap[l]? = some o) (hc : o.isCells = false) : KpL x W (W.putObj l o') :=
  ⟨(grownBy_putObj' W l o').size, fun r => r.grown (grownBy_putObj' W l o') (fun e => by have := Option.some.inj e; omega), fun q hq hqc => ((grownBy_putObj' W l o').block x.g (Array.getElem?_eq_some_iff.1 hq).1 (fun e => by
    have := Option.some.inj e
    subst this
    rw [ho] at hq
    cases hq
    rw [hc] at hqc
    cases hqc)).trans hq⟩
theorem digs_block {w : World} {b off : Nat} {ps : List (List Int)} (hps : ∀ p ∈ ps, isDig p) (h : DigsAt w b off ps) (h0 : 0 < ps.length) : b < w.heap.size ∧ ∃ o, w.heap[b]? = some o ∧ o.isCells = true := by
  have h1 := h 0 h0
  have hl0 := (getD_dig hps 0).1
  have := h1 0 (.int .u8 ((ps.getD 0 zeroC).getD 0 0)) (by rw [Array.getElem?_toList]; exact arr_get (by omega))
  exact ⟨World.block_lt_of_cell? w _ this, cells_of_cell this⟩
theorem DigsAt.same {w w' : World} {b off : Nat} {ps : List (List Int)} (h : DigsAt w b off ps) (hb : w'.heap[b]? = w.heap[b]?) : DigsAt w' b off ps := fun j hj i v hv => (World.cell?_of_block hb).trans (h j hj i v hv)
theorem DigsAt.kp {w w' : World} {x : Lev} {off : Nat} {ps : List (List Int)} (hps : ∀ p ∈ ps, isDig p) (h : DigsAt w x.g off ps) (h0 : 0 < ps.length) (k : KpL x w w') : DigsAt w' x.g off ps := by
  obtain ⟨_, o, ho, hc⟩ := digs_block hps h h0
  exact h.same ((k.2.2 o ho hc).trans ho.symm)
theorem digs_abide {B b off : Nat} {ps : List (List Int)} {β : Type} : OwnFrom B (fun (_ : β) W => DigsAt W b off ps) := fun _ _ _ _ hs hg hr j hj i v hv => cell_kept (hs j hj i v hv) hg (fun r e => (hr r e).2)

theorem lev_half {k : Nat} (h : k < 5) : 32 / 2 ^ k = 2 * (32 / 2 ^ (k + 1)) ∧ 0 < 32 / 2 ^ (k + 1) ∧ 32 / 2 ^ (k + 1) ≤ 1000 := by
  have : k = 0 ∨ k = 1 ∨ k = 2 ∨ k = 3 ∨ k = 4 := by omega
  rcases this with rfl | rfl | rfl | rfl | rfl <;> decide

theorem levels_in (F : Fence) (m : Nat) (A : Option Addr) (n c : Nat) (w : World) (h : F = Fence.wide) : CallsIn F m Tryz.prog 70 #[.slice A n c] w fun e w' => e = .returned (.func (.func 108) #[] #[.pointer (some ⟨w.heap.size, 0, none⟩)]) ∧
      w' = w.alloc (.cells #[.slice A n c] 71) := by
  subst h
  refine callsIn_of_wp Tryz.func70 rfl trivial ?_ rfl
  simp only [Tryz.ntmps70, List.size_toArray, List.length_cons, List.length_nil, Nat.reduceAdd, Nat.reduceSub, Array.replicate_succ, Array.replicate_zero, List.push_toArray, List.append_toArray, List.nil_append, List.cons_append]
  gi_wp2
  go_ret
  exact ⟨rfl, rfl⟩

set_option maxRecDepth 100000 in
set_option maxHeartbeats 2000000 in
theorem levels1_in (m l B1 b off c N : Nat) (ps : List (List Int)) (hl : ps.length = 32) (hps : ∀ p ∈ ps, isDig p) (J Jx : List Lev → World → Prop) (hm : 2 ≤ m)
    (hJ : ∀ s A B, J s A → A.grownBy B none → J s B)
    (hY : ∀ pre x V, J pre V → PhiL N b ps pre (J pre) x V → YieldAt Fence.wide (m - 1) Tryz.prog l (levE x) V fun e V' =>
      (e = .returned (.bool true) ∧ J (pre ++ [x]) V' ∧ KpL x V V') ∨ (e = .returned (.bool false) ∧ Jx (pre ++ [x]) V'))
    (W : World) (hN : N ≤ W.heap.size) (hR : Rounds W) (h1 : Blk W B1 71 #[.slice (some ⟨b, off, none⟩) 32 c]) (hD : DigsAt W b off ps) (h0 : J [] W) :
    CallsIn Fence.wide m Tryz.prog 108 #[.func (.yield l) #[] #[], .pointer (some ⟨B1, 0, none⟩)] W fun e W' => (∃ v, e = .returned v) ∧
      ((∃ xs, xs.length = 6 ∧ J xs W') ∨ (∃ pre, True ∧ Jx pre W')) := by
  have c1 := h1.cell 0
  simp only [List.getElem?_toArray, List.getElem?_cons_zero] at c1
  have J0 := Lib.hid (And.intro h0 (And.intro hR (And.intro hD hN)))
  have HN := Lib.hid (And.intro hl hps)
  have HJ := Lib.hid hJ
  have HY := Lib.hid hY
  clear h0 hR hD hN hl hps hJ hY h1
  refine callsIn_of_wp Tryz.func108 rfl trivial ?_ rfl
  simp only [Tryz.ntmps108, List.size_toArray, List.length_cons, List.length_nil, Nat.reduceAdd, Nat.reduceSub, Array.replicate_succ, Array.replicate_zero, List.push_toArray, List.append_toArray, List.nil_append, List.cons_append]
  gi_wp2
  clear c1
  gi_loopw [3, 4] (fun lv i wr => ∃ (k n g o c : Nat) (pre : List Lev), i = .int .i64 (k : Int) ∧ lv = .slice (some ⟨g, o, none⟩) n c ∧ J pre wr ∧ Rounds wr ∧ N ≤ wr.heap.size ∧ PhiL N b ps pre (J pre) ⟨k, n, g, o, c⟩ wr) (fun _ i _ => (5 - intOf i).toNat)
  case atStart => exact ⟨0, 32, b, off, c, [], rfl, rfl, J0.out.1, J0.out.2.1, J0.out.2.2.2, rfl, Nat.zero_le _, show 32 = 32 / 2 ^ 0 from rfl, by rw [levC_zero HN.out.1]; exact J0.out.2.2.1, .inl rfl⟩
  case round =>
    obtain ⟨k, n, g, o, c2, pre, hi, hv, hJs, hRr, hNr, hph⟩ := hrel
    obtain ⟨I, hI⟩ : ∃ I : Int, I = (k : Int) := ⟨_, rfl⟩
    rw [← hI] at hi
    subst hi hv
    have hk5 : k ≤ 5 := hph.2.1
    have hpk : k = pre.length := hph.1
    have hn : n = 32 / 2 ^ k := hph.2.2.1
    have hD := hph.2.2.2.1
    have hyy := HY.out pre ⟨k, n, g, o, c2⟩ wr hJs hph
    simp only [levE] at hyy
    rw [← hI] at hyy
    obtain ⟨fn, tmps, assign, body, hy, hR⟩ := hyy
    have hbk := digs_block (levC_dig HN.out.2 k n) hD
    by_cases hlt : k < 5
    · have d1 : decide (I < 5) = true := by simp; omega
      have hI5 : 0 ≤ I ∧ I < 5 := by omega
      obtain ⟨m2, hm2⟩ : ∃ m2, m2 = 32 / 2 ^ (k + 1) := ⟨_, rfl⟩
      have hnm : n = 2 * m2 ∧ 0 < m2 ∧ m2 ≤ 1000 := by rw [hn, hm2]; exact lev_half hlt
      have HI := Lib.hid (And.intro hI (And.intro hlt (And.intro hm2 (And.intro hnm (And.intro hpk (And.intro hRr (And.intro hNr hD)))))))
      have HRR := Lib.hid hR
      clear hI hlt hJs hRr hNr hph hk5 hpk hn hD hbk hm2 hnm hR
      gi_wp2
      refine ⟨fun _ => by omega, ?_⟩
      refine HRR.out.mono ?_
      rintro e W3 (⟨rfl, hJ3, hk3⟩ | ⟨rfl, hJx3⟩)
      · obtain ⟨hI, hlt, hm2, ⟨hn1, hn2, hn3⟩, hpk, hRr, hNr, hD⟩ := HI.out
        have hD3 : DigsAt W3 g o (levC ps k n) := DigsAt.kp (x := ⟨k, n, g, o, c2⟩) (levC_dig HN.out.2 k n) hD (by rw [levC_length]; omega) hk3
        have HA := Lib.hid (above_is W3 (hk3.2.1 hRr) g o n c2 m2 (levC ps k n) (levC_length _ _ _) hn1 hn3 hn2 (levC_dig HN.out.2 k n) hD3)
        have HJ3 := Lib.hid (And.intro hJ3 (And.intro (hk3.2.1 hRr) (Nat.le_trans hNr hk3.1)))
        clear hI hlt hm2 hn1 hn2 hn3 hpk hRr hNr hD hJ3 hk3 hD3
        gi_wp2
        refine ⟨trivial, fun _ => by omega, ?_⟩
        refine (callsIn_wide.2 HA.out).mono ?_
        rintro e W4 ⟨g2, rfl, hg2, _, hD4, hk4⟩
        have HK4 := Lib.hid (And.intro hg2 (And.intro hD4 hk4))
        clear hg2 hD4 hk4
        gi_wp2
        go_roundw
        case rel =>
          obtain ⟨hI, hlt, hm2, ⟨hn1, hn2, hn3⟩, hpk, hRr, hNr, hD⟩ := HI.out
          obtain ⟨hg2, hD4, hk4⟩ := HK4.out
          rw [aboveC_lev hn1] at hD4
          exact ⟨k + 1, m2, g2, 0, m2, pre ++ [⟨k, n, g, o, c2⟩], by rw [hI]; rfl, rfl, HJ.out _ _ _ HJ3.out.1 hk4, HJ3.out.2.1.grown hk4 (by simp), Nat.le_trans HJ3.out.2.2 hk4.size, by simp [hpk], by show k + 1 ≤ 5; omega, hm2, hD4, .inr ⟨Nat.le_trans HJ3.out.2.2 hg2, W3, HJ3.out.1, hk4, hg2⟩⟩
        case measure => obtain ⟨hI, hlt, _⟩ := HI.out; simp only [intOf]; omega
      · gi_wp2
        go_end0
        exact ⟨⟨_, rfl⟩, .inr ⟨_, trivial, hJx3⟩⟩
    · obtain rfl : k = 5 := by omega
      have d1 : decide (I < 5) = false := by simp; omega
      have HI := Lib.hid hpk
      have HRR := Lib.hid hR
      clear hI hlt hJs hRr hNr hph hk5 hpk hn hD hbk hR
      gi_wp2
      refine ⟨fun _ => by omega, ?_⟩
      refine HRR.out.mono ?_
      rintro e W3 (⟨rfl, hJ3, hk3⟩ | ⟨rfl, hJx3⟩)
      · gi_wp2
        go_end0
        exact ⟨⟨_, rfl⟩, .inl ⟨_, by simp [← HI.out], hJ3⟩⟩
      · gi_wp2
        go_end0
        exact ⟨⟨_, rfl⟩, .inr ⟨_, trivial, hJx3⟩⟩
theorem levels_seq (m : Nat) (hm : 2 ≤ m) (B1 b off c : Nat) (ps : List (List Int)) (hl : ps.length = 32) (hps : ∀ p ∈ ps, isDig p) (w : World) (hR : Rounds w) (h1 : Blk w B1 71 #[.slice (some ⟨b, off, none⟩) 32 c]) (hD : DigsAt w b off ps) :
    SeqTold Fence.wide m Tryz.prog 108 #[.pointer (some ⟨B1, 0, none⟩)] levE KpL (PhiL w.heap.size b ps)
      (fun xs => xs.length = 6) (fun _ => True) w := fun l J Jx W hW hJ _ hY h0 =>
  levels1_in m l B1 b off c w.heap.size ps hl hps J Jx hm (fun s A B hA hg => hJ _ A B none hA hg (fun _ e => by cases e)) hY W hW.size
    (by obtain ⟨t, ht⟩ := hR; exact ⟨t, (hW.block _ (Blk.lt ht)).trans ht⟩) ((hW.block _ h1.lt).trans h1) (hD.same (hW.block _ (digs_block hps hD (by omega)).1)) h0
end Go.Proofs.YthkjlgjbjjjohaaGreatDoor
/-
  trees.Root.
-/

namespace Go.Proofs.YthkjlgjbjjjohaaGreatDoor
open Go.RowKit Go.Shelf

attribute [local go_sem] Oper.semAt_some

theorem lev_pos {k : Nat} (h : k ≤ 5) : 0 < 32 / 2 ^ k := by
  have : k = 0 ∨ k = 1 ∨ k = 2 ∨ k = 3 ∨ k = 4 ∨ k = 5 := by omega
  rcases this with rfl | rfl | rfl | rfl | rfl | rfl <;> decide
/-- What the root's variable holds behind these levels. -/
def rootV (ps : List (List Int)) : Nat → Array Value
  | 0 => arrV .u8 (List.replicate 16 0)
  | k + 1 => arrV .u8 (nodeC ps k 0)

set_option maxRecDepth 100000 in
set_option maxHeartbeats 4000000 in
theorem root_ok (w : World) (hR : Rounds w) (b off c : Nat) (ps : List (List Int)) (hl : ps.length = 32) (hps : ∀ p ∈ ps, isDig p) (hD : DigsAt w b off ps) (rs : Array Value) (hrs : rs = arrV .u8 (nodeC ps 5 0)) :
    Calls Tryz.prog 35 #[.slice (some ⟨b, off, none⟩) 32 c] w fun e w' => e = .returned (.tuple #[.agg rs, .nilIface]) ∧ w.grownBy w' none := by
  obtain ⟨Z16, hZ16⟩ : ∃ Z, Z = arrV .u8 (List.replicate 16 0) := ⟨_, rfl⟩
  have hz16 : ∀ w, Sem.run Tryz.prog (zeroValue 23) w = .ok (.agg Z16) w := fun w => by rw [hZ16]; exact z16run w
  have hbw := (digs_block hps hD (by omega)).1
  have HD := Lib.hid (show Z16.size = 16 ∧ Z16 = rootV ps 0 from ⟨by rw [hZ16]; rfl, by rw [hZ16, rootV]⟩)
  have HN := Lib.hid (And.intro hl (And.intro hps (And.intro hrs (And.intro hR (And.intro hD hbw)))))
  clear hZ16 hl hps hrs hR hD hbw
  refine (callsIn_wide (n := 6)).1 ?_
  refine callsIn_of_wp_marks Tryz.func35 rfl trivial ?_ rfl
  simp only [Tryz.ntmps35, List.size_toArray, List.length_cons, List.length_nil, Nat.reduceAdd, Nat.reduceSub, Array.replicate_succ, Array.replicate_zero, List.push_toArray, List.append_toArray, List.nil_append, List.cons_append]
  gi_wp2
  refine ⟨trivial, ?_⟩
  refine (levels_in _ _ _ _ _ _ rfl).mono ?_
  rintro e w1 ⟨rfl, rfl⟩
  gi_wp2
  have c2 := (Blk.new w 23 Z16).alloc (.cells Z16 23)
  have c4 := Blk.new (w.alloc (.cells Z16 23)) 23 Z16
  have c5 := Blk.new ((w.alloc (.cells Z16 23)).alloc (.cells Z16 23)) 71 #[.slice (some ⟨b, off, none⟩) 32 c]
  simp only [World.size_alloc] at c4 c5
  have d2 := c2.alloc (.cells #[.slice (some ⟨b, off, none⟩) 32 c] 71)
  have d4 := c4.alloc (.cells #[.slice (some ⟨b, off, none⟩) 32 c] 71)
  have hg0 : w.grownBy (((w.alloc (.cells Z16 23)).alloc (.cells Z16 23)).alloc (.cells #[.slice (some ⟨b, off, none⟩) 32 c] 71)) none := grown_trans (grown_trans (World.grownBy_alloc w _ none) (World.grownBy_alloc _ _ none)) (World.grownBy_alloc _ _ none)
  obtain ⟨W0, hW0⟩ : ∃ W0, (((w.alloc (.cells Z16 23)).alloc (.cells Z16 23)).alloc (.cells #[.slice (some ⟨b, off, none⟩) 32 c] 71)) = W0 := ⟨_, rfl⟩
  have hsz : W0.heap.size = w.heap.size + 3 := by rw [← hW0]; simp
  rw [hW0] at hg0 d2 d4 c5 ⊢
  clear c2 c4 hW0
  have hRl := HN.out.2.2.2.1.lt
  refine wpIn_rangeFunc_told rfl (by omega) (gf := 108) (lb := #[.pointer (some ⟨w.heap.size + 1 + 1, 0, none⟩)]) rfl trivial (enters_of Tryz.func108 (by kernel_rfl) rfl)
    (levels_seq 5 (by omega) (w.heap.size + 1 + 1) b off c ps HN.out.1 HN.out.2.1 W0 (HN.out.2.2.2.1.grown hg0 (by simp)) c5 (HN.out.2.2.2.2.1.grown hg0)) (fun h1 h2 => KpL.trans h1 h2)
    (fun x W l o o' hl ho hc _ => KpL.put (by omega) ho hc) PhiL.mono (Below.refl _ _) (fun _ => rfl)
    (fun pre W => Blk W w.heap.size 23 Z16 ∧ (Blk W (w.heap.size + 1) 23 (rootV ps pre.length) ∧ W0.grownBy W (some (w.heap.size + 1))))
    (fun _ _ _ => False)
    (OwnFrom.and (ownFrom_blk _) (OwnFrom.and (ownFrom_blk _) (ownFrom_grownr (Nat.le_refl _))))
    (fun _ => ownFrom_pure _)
    ⟨d2, by rw [List.length_nil, ← HD.out.2]; exact d4, World.grownBy.refl _ _⟩
    (fun pre x a' W => (a' = { tmps := #[.slice (some ⟨b, off, none⟩) 32 c, undef, .pointer (some ⟨w.heap.size, 0, none⟩), .nilIface, .pointer (some ⟨w.heap.size + 1, 0, none⟩), undef, .slice (some ⟨x.g, x.o, none⟩) x.n x.c, .slice (some ⟨b, off, none⟩) 32 c, .int .i64 32, .bool false, undef, undef, .slice (some ⟨b, off, none⟩) 32 c, .func (.func 108) #[] #[.pointer (some ⟨w.heap.size + 1 + 1, 0, none⟩)], .int .i64 (x.k : Int), .slice (some ⟨x.g, x.o, none⟩) x.n x.c, undef, undef, undef, undef], defers := [] } ∧ x.k = pre.length ∧ 0 < x.n ∧ x.g ≠ w.heap.size + 1) ∧ DigsAt W x.g x.o (levC ps x.k x.n))
    (fun pre x a' => OwnFrom.and (ownFrom_pure _) digs_abide) ?assign ?body ?done ?stop
  case assign =>
    rintro l pre ⟨k, n, g, o, c2⟩ W K ⟨hZ, hB, hG⟩ ⟨h1, h2, h3, h4, h5⟩ hK
    have hn0 : 0 < n := by
      simp only at h3 h2
      rw [h3]
      exact lev_pos h2
    have hgn : g ≠ w.heap.size + 1 := by
      have := HN.out.2.2.2.2.2
      rcases h5 with h5 | ⟨h5, _⟩
      · simp only at h5; omega
      · simp only at h5; omega
    have HK := Lib.hid (hK _ W ((keeps_grown (World.grownBy.refl W none)).from _) (KpL.grown (World.grownBy.refl W none) (by simp) (by simp)) ⟨hZ, hB, hG⟩ ⟨⟨rfl, h1, hn0, hgn⟩, h4⟩)
    clear hK hZ hB hG h1 h2 h3 h4 h5 hn0 hgn
    simp only [levE]
    gi_wp2
    exact HK.out
  case body =>
    rintro l pre ⟨k, n, g, o, c2⟩ a' W hl0 hl1 ⟨hZ, hB, hG⟩ ⟨⟨rfl, hk, hn0, hgn⟩, hDk⟩
    simp only at hk hn0 hgn hDk
    obtain ⟨I, hI⟩ : ∃ I : Int, I = (k : Int) := ⟨_, rfl⟩
    simp only [← hI]
    obtain ⟨es, hes⟩ : ∃ es, es = arrV .u8 (nodeC ps k 0) := ⟨_, rfl⟩
    obtain ⟨el, hel⟩ : ∃ el, el = es.toList := ⟨_, rfl⟩
    have he16 : es.size = 16 := by rw [hes, arr_size]; exact (nodeC_dig HN.out.2.1 _ _).1
    have hr : W.rangeAt g o el := by
      have := hDk 0 (by rw [levC_length]; exact hn0)
      rw [levC_get hn0] at this
      rw [hel, hes]
      simpa using this
    obtain ⟨ro, hro⟩ : ∃ ro, ro = rootV ps pre.length := ⟨_, rfl⟩
    rw [← hro] at hB
    have hro16 : ro.size = 16 := by
      rw [hro]
      cases pre.length with
      | zero => rfl
      | succ m => rw [rootV, arr_size]; exact (nodeC_dig HN.out.2.1 _ _).1
    have HE := Lib.hid (And.intro he16 (And.intro (show (es.all fun v => v.oneCell') = true by rw [hes]; exact arr_one _ _) (And.intro hr (And.intro (show (Tryz.prog.info? 23).map (·.size) = some el.length by rw [hel, Array.length_toList, he16]; exact info16) (show el.toArray = es by rw [hel, Array.toArray_toList])))))
    have HB := Lib.hid (And.intro hB (And.intro hro16 (And.intro hZ (And.intro hG (And.intro hk (And.intro hgn hes))))))
    have hn : 0 < (n : Int) := by omega
    clear hB hro hro16 hZ hG hes hel he16 hr hDk hk hgn hI hl0 hl1
    gi_wp2_with (first
      | (refine wpListIn_load_mid rfl 23 _ rfl g _ rfl el _ HE.out.2.2.1 Tryz.underlying23 rfl HE.out.2.2.2.1 ?_; rw [HE.out.2.2.2.2])
      | (refine wpListIn_store_row rfl 23 _ _ rfl (w.heap.size + 1) es rfl rfl 23 _ HB.out.1 (by rw [HE.out.1]; exact info16) (by rw [HB.out.2.1, HE.out.1]) HE.out.2.1 ?_))
    obtain ⟨hB, _, hZ, hG, hk, hgn, hes⟩ := HB.out
    have hrow : W.grownBy (W.setRow (w.heap.size + 1) es) (some (w.heap.size + 1)) := grown_row (World.grownBy.refl W _) (.inr rfl) es
    exact ⟨(keeps_row hB hrow).from _, KpL.grown hrow (by intro e; have := Option.some.inj e; omega) (by intro e; exact hgn (Option.some.inj e).symm), hZ.farRow (by omega) es, by rw [List.length_append, List.length_singleton, rootV, ← hk, ← hes]; exact hB.row es, grown_trans hG hrow⟩
  case done =>
    rintro Dd xs W hD hS ⟨hZ, hB, hG⟩ hK
    rw [hS, rootV, ← HN.out.2.2.1] at hB
    have hGw : w.grownBy W none := grown_fresh hg0 hG (by omega)
    have hnd := nodeC_dig HN.out.2.1 5 0
    have HS6 := Lib.hid (show rs.size = 16 ∧ (rs.all fun x => x.oneCell') = true from ⟨by rw [HN.out.2.2.1, arr_size]; exact hnd.1, by rw [HN.out.2.2.1]; exact arr_one _ _⟩)
    have HB := Lib.hid (And.intro hB (And.intro hZ hGw))
    have HKD := Lib.hid (And.intro hK hD)
    clear hB hZ hG hGw hK hD hnd
    gi_wp2_with (first
      | (refine wpListIn_load_row rfl 23 _ rfl (w.heap.size + 1) rfl 23 rs (0, 0) _ HB.out.1 Tryz.underlying23 rfl (by rw [HS6.out.1]; exact info16) ?_)
      | (refine wpListIn_store_row rfl 23 _ _ rfl w.heap.size rs rfl rfl 23 _ HB.out.2.1 (by rw [HS6.out.1]; exact info16) (by rw [HD.out.1, HS6.out.1]) HS6.out.2 ?_))
    have hK' : (W.setRow w.heap.size rs).heap[Dd]? = some (.deferred (some [])) := (setRow_other _ _ _ _ (by have := HKD.out.2; omega)).trans HKD.out.1
    have hZ' := (HB.out.2.1.row rs).grown (grownBy_putObj' _ Dd (.deferred none)) (by intro e; have := Option.some.inj e; have := HKD.out.2; omega)
    refine ⟨by simp, .inl ⟨_, _, rfl, run_takeDeferred hK', ?_⟩⟩
    exact ⟨_, results_cell_t rfl _ _ _ ⟨w.heap.size, 0, none⟩ (.agg rs) rfl (run_loadVar_row _ w.heap.size 23 23 rs (0, 0) _ hZ' Tryz.underlying23 rfl (by rw [HS6.out.1]; exact info16)), rfl, grown_fresh (grown_row HB.out.2.2 (.inl (Nat.le_refl _)) rs) (grownBy_putObj' _ Dd (.deferred none)) (by have := HKD.out.2; omega)⟩
  case stop => rintro Dd c pre W hD hk h hK; exact h.elim
end Go.Proofs.YthkjlgjbjjjohaaGreatDoor
