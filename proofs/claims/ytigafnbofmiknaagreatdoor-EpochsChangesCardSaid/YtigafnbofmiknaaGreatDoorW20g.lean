/- Ap, Ch, Rg, Rw, Tx -/
import Derived.OwnWalk
import Derived.Test.YtigafnbofmiknaaGreatDoorW20a
import Derived.Test.YtigafnbofmiknaaGreatDoorW20f
import Derived.RangeFuncNested
import Derived.RangeFuncBound
import Derived.RangeFuncBox
import Derived.RangeFuncCalls
import Derived.RangeFuncLeaves
import Derived.Shelf.Abstract
import Derived.Shelf.RegionOpen
import Derived.OwnWalkIn
import Derived.TacticsInMore
import Derived.LoopNIn
import Derived.LoopIn
import Derived.BigRegionIn
import Derived.Deep.MidRow
import Derived.Deep.RegionHeld3
namespace Go.Proofs.YtigafnbofmiknaaGreatDoor
set_option maxRecDepth 100000
set_option maxHeartbeats 10000000
open Go.RowKit
section
theorem yh {a b c : World} {v : Value} {base size : Nat} {e : TypeId} {n : Nat} {xs : List Value} (h : a.grownBy b none) (k : b.grownBy c v.ownBlock) (hv : b.ownsRow base e size v n xs) (hB : a.heap.size <= base) : a.grownBy c none := by
 cases hg : v.ownBlock with
 | none => rw [hg] at k; exact za h k
 | some g => rw [hg] at k; exact z8 h k (Nat.le_trans hB (hv.lt g hg).1)
theorem vk {P : Program} {w0 : World} {ops : Array Oper} {rest : List Oper} {o : Oper} {a : Act} {Q : Exit -> Act -> World -> Prop} (hgd : o.guard = none) (s x : Operand) (t : TypeId)
    (ho : o.op = .call { callee := .builtin .append, args := #[s, x], argTypes := #[t, t] }) (base : Nat) (e e0 : TypeId) (i : TypeInfo) (z : Value) (bytes : Nat) (ht : P.underlying t = some (.slice e)) (hi : P.info? e = some i) (hz : i.zero = some z) (hsize : i.size = 1) (hby : i.bytes = bytes) (hzs : z.cells.size = 1)
    (v : Value) (n : Nat) (xs : List Value) (hs : a.eval s = v) (hown : w0.ownsRow base e 1 v n xs) (u : Value) (hu1 : u.oneCell' = true) (hx : a.eval x = .slice (some ⟨w0.heap.size, 0, none⟩) 1 1) (hn : n <= 1000000) (hb : bytes <= 1000) (hbase : base <= w0.heap.size)
    (h : ∀ v' w', w'.ownsRow base e 1 v' (n + 1) (xs ++ [u]) -> w0.grownBy w' v.ownBlock -> wpList P ops Q rest (a.put o.dst v') w') : wpList P ops Q (o :: rest) a (w0.alloc (.cells #[u] e0)) := by
 refine wpList_append_own _ hgd s x t ho base e i z 1 bytes ht hi hz hsize hby hzs (by omega) v n xs hs (hown.alloc _) ⟨w0.heap.size, 0, none⟩ 1 1 [u] hx rfl (fun j y hy => ?_) (by simp [hu1]) (by simp only [maxLen]; omega) (by
  have := Nat.mul_le_mul (show n + 1 <= 1000001 by omega) hb
  omega) (by rw [World.size_alloc]; omega) (fun v' w' h1 h2 _ => h v' w' h1 (za (World.grownBy_alloc w0 _ _) h2))
 have : j = 0 := by
  have := (List.getElem?_eq_some_iff.1 hy).1
  simp at this
  omega
 subst this
 have h1 := (Blk.new w0 e0 #[u]).cell 0
 rw [show (⟨w0.heap.size, 0, none⟩ : Addr).add 0 = ⟨w0.heap.size, 0, none⟩ by simp [Addr.add], h1]
 simpa using hy
end
section
theorem over_mem : ∀ (y bs : List Int) (a : Nat) (z : Int), z ∈ over bs a y -> z ∈ bs \/ z ∈ y
 | [], bs, a, z, h => .inl h
 | x :: y, bs, a, z, h => by
  rcases over_mem y (bs.set a x) (a + 1) z h with h | h
  · rcases List.mem_or_eq_of_mem_set h with h | h
    · exact .inl h
    · exact .inr (by simp [h])
  · exact .inr (by simp [h])
theorem sumW_byte (ws : List Int) : ∀ (k : Nat) (z : Int), z ∈ ur ws k -> 0 <= z /\ z < 256
 | 0, z, h => by
  have : z = 0 := by simpa [ur] using List.eq_of_mem_replicate h
  omega
 | k + 1, z, h => by
  rcases over_mem _ _ _ z h with h | h
  · exact sumW_byte ws k z h
  · simp only [wordB, List.mem_cons, List.not_mem_nil, or_false] at h
    omega
def isDig (l : List Int) : Prop := l.length = 16 /\ ∀ z ∈ l, 0 <= z /\ z < 256
theorem zbb (a0 : Int) (ps : List (List Int)) : isDig (ofS a0 ps) := ⟨zag _ _, fun z hz => sumW_byte _ _ z (List.mem_of_mem_take hz)⟩
def stepC (x : List Int) (lf i k : Int) : List Int := ofS 2 [x, [lf % 256], [i % 256], [k % 256]]
def runC (x : List Int) (lf i lo : Int) : Nat -> List Int
 | 0 => x
 | n + 1 => stepC (runC x lf i lo n) lf i (lo + n)
theorem zdj (x : List Int) (lf i k : Int) : isDig (stepC x lf i k) := by rw [stepC]; exact zbb _ _
theorem zdm (x : List Int) (lf i lo : Int) (n : Nat) : runC x lf i lo (n + 1) = stepC (runC x lf i lo n) lf i (lo + n) := by rw [runC]
theorem zc9 (x : List Int) (lf i lo : Int) (hx : isDig x) (n : Nat) : isDig (runC x lf i lo n) := by
 cases n with
 | zero => rw [runC]; exact hx
 | succ n => rw [zdm]; exact zdj _ _ _ _
def secC (seed : List Int) (lf i : Int) : List Int := ofS 1 [seed, [lf % 256], [i % 256]]
def rowC (f : Nat -> List Int) : Nat -> List Int
 | 0 => []
 | n + 1 => rowC f n ++ f n
theorem rowC_length (f : Nat -> List Int) (h : ∀ k, (f k).length = 16) : ∀ n, (rowC f n).length = 16 * n
 | 0 => rfl
 | n + 1 => by rw [rowC, List.length_append, rowC_length f h n, h]; omega
def pubC (lf : Int) (ends : List Int) : List Int := ofS 3 [[lf % 256], ends]
end
section
open Go.RowKit Go.Shelf
def upto {α : Type} (f : Nat -> α) (k : Nat) : List α := (List.range k).map f
theorem uq {α : Type} (f : Nat -> α) (k : Nat) : upto f (k + 1) = upto f k ++ [f k] := by simp [upto, List.range_succ]
theorem za7 {α : Type} (f : Nat -> α) (k : Nat) : (upto f k).length = k := by simp [upto]
theorem vm {β : Type} {B g : Nat} {t : TypeId} (f : β -> Array Value) : OwnFrom B (fun s W => Blk W g t (f s)) :=
 Own.from (fun s _ _ _ hs hg hr => (grownBy_keeps_cells (k := g) (o := .cells (f s) t (0, 0)) hg hr hs rfl).trans hs) _
theorem ownFrom_grown {β : Type} {B : Nat} {w0 : World} (h : w0.heap.size <= B) : OwnFrom B (fun (_ : β) W => w0.grownBy W none) := fun s W W' row hs hg hr =>
 ⟨hg.os.trans hs.os, hg.tape.trans hs.tape, hg.output.trans hs.output, Nat.le_trans hs.size hg.size, fun k hk hne => (hg.block k (Nat.lt_of_lt_of_le hk hs.size) (by
  intro e
  have := (hr k e.symm).1
  omega)).trans (hs.block k hk hne)⟩
theorem ownFrom_own {β : Type} {B : Nat} {base size n : Nat} {e : TypeId} {v : Value} (f : β -> List Value) : OwnFrom B (fun s W => W.ownsRow base e size v n (f s)) :=
 Own.from (fun s _ _ _ hs hg hr => by
  obtain ⟨h1, h2⟩ := hs
  refine ⟨h1, ?_⟩
  rcases h2 with h2 | ⟨g, cap, cur, hv, hb, hh, r⟩
  · exact .inl h2
  · exact .inr ⟨g, cap, cur, hv, hb, (grownBy_keeps_cells hg hr hh rfl).trans hh, r⟩) _
theorem zbp {β : Type} {B : Nat} (p : β -> Prop) : OwnFrom B (fun s (_ : World) => p s) := fun _ _ _ _ hs _ _ => hs
theorem keeps_row {W W' : World} {g : Nat} {t : TypeId} {cs : Array Value} (h : Blk W g t cs) (hg : W.grownBy W' (some g)) : KeepsOthers W W' :=
 KeepsOthers.of_grownBy hg (fun j o e ho => by
  obtain rfl := Option.some.inj e
  unfold Blk at h
  rw [h] at ho
  obtain rfl := Option.some.inj ho
  rfl)
theorem u0 {W W' : World} (hg : W.grownBy W' none) : KeepsOthers W W' := KeepsOthers.of_grownBy hg (fun j o e => by cases e)
theorem grown_below0 {w w' : World} (h : Below w.heap.size w w') : w.grownBy w' none := ⟨h.os, h.tape, h.output, h.size, fun k hk _ => h.block k hk⟩
section
variable {F : Fence} {n : Nat} {P : Program} {ops : Array Oper} {rest : List Oper} {o : Oper} {a : Act} {w : World} {Q : Exit -> Act -> World -> Prop}
theorem yx (hgd : o.guard = none) (ty : TypeId) (x y : Operand) (ho : o.op = .store ty x y)
    (g : Nat) (cells : Array Value) (hx : a.eval x = .pointer (some ⟨g, 0, none⟩)) (hy : a.eval y = .agg cells)
    (t : TypeId) (old : Array Value) (hg : w.heap[g]? = some (.cells old t (0, 0))) (hi : (P.info? ty).map (·.size) = some cells.size)
    (hold : old.size = cells.size) (h1 : cells.all (·.oneCell') = true)
    (h : wpListIn F n P ops Q rest (a.put o.dst undef) (w.setRow g cells)) : wpListIn F n P ops Q (o :: rest) a w := by
 refine wpListIn_plain hgd fun K hK => ?_
 unfold Oper.wpIn
 refine ⟨by simp [Oper.about, ho], ?_⟩
 rw [Oper.semAt_plain F _ _ (by rw [ho]; intro c hc'; cases hc')]
 unfold execOp
 simp only [ho, hx, hy, Instr.storeAt, Instr.sureAddr, Sem.run_bind, Sem.run_pure, Result.andThen_ok, run_storeVar_row w g t ty old cells hg hi hold h1]
 exact hK _ _ h
theorem yo (hgd : o.guard = none) (ty : TypeId) (x : Operand) (ho : o.op = .load ty x)
    (g : Nat) (hx : a.eval x = .pointer (some ⟨g, 0, none⟩)) (t : TypeId) (cs : Array Value) (fr : Nat × Nat) (d : TypeDesc) (hg : w.heap[g]? = some (.cells cs t fr))
    (hu : P.underlying ty = some d) (hd : (match d with | .struct _ | .array _ _ => true | _ => false) = true) (hi : (P.info? ty).map (·.size) = some cs.size)
    (h : wpListIn F n P ops Q rest (a.put o.dst (.agg cs)) w) : wpListIn F n P ops Q (o :: rest) a w := by
 refine wpListIn_plain hgd fun K hK => ?_
 unfold Oper.wpIn
 refine ⟨by simp [Oper.about, ho], ?_⟩
 rw [Oper.semAt_plain F _ _ (by rw [ho]; intro c hc'; cases hc')]
 unfold execOp
 simp only [ho, hx, Instr.loadAt, Instr.sureAddr, Sem.run_bind, Sem.run_pure, Result.andThen_ok, run_loadVar_row w g t ty cs fr d hg hu hd hi]
 exact hK _ _ h
theorem uc (hgd : o.guard = none) (ty : TypeId) (x : Operand) (ho : o.op = .load ty x)
    (b off : Nat) (hx : a.eval x = .pointer (some ⟨b, off, none⟩)) (cs : List Value) (d : TypeDesc) (hc : w.rangeAt b off cs)
    (hu : P.underlying ty = some d) (hd : d.isRow = true) (hi : (P.info? ty).map (·.size) = some cs.length)
    (h : wpListIn F n P ops Q rest (a.put o.dst (.agg cs.toArray)) w) : wpListIn F n P ops Q (o :: rest) a w := by
 refine wpListIn_plain hgd fun K hK => ?_
 unfold Oper.wpIn
 refine ⟨by simp [Oper.about, ho], ?_⟩
 rw [Oper.semAt_plain F _ _ (by rw [ho]; intro c hc'; cases hc')]
 unfold execOp
 simp only [ho, hx, Instr.loadAt, Instr.sureAddr, Sem.run_bind, Sem.run_pure, Result.andThen_ok, run_loadVar_mid w b off ty cs d hc hu hd hi]
 exact hK _ _ h
theorem wpListIn_build_run (hgd : o.guard = none) (t : TypeId) (parts : Array (Nat × Operand)) (ho : o.op = .build t parts) (V : Value)
    (hr : Sem.run P (Instr.build t (parts.map fun (i, x) => (i, a.eval x))) w = .ok V w) (h : wpListIn F n P ops Q rest (a.put o.dst V) w) : wpListIn F n P ops Q (o :: rest) a w := by
 refine wpListIn_plain hgd fun K hK => ?_
 unfold Oper.wpIn
 refine ⟨by simp [Oper.about, ho], ?_⟩
 rw [Oper.semAt_plain F _ _ (by rw [ho]; intro c hc'; cases hc')]
 unfold execOp
 simp only [ho, Sem.run_bind, hr, Result.andThen_ok, Sem.run_pure]
 exact hK _ _ h
end
/-! ### A region that draws its order, in a round of a range over a function: as anywhere -/
section
variable {P : Program} {ops : Array Oper} {Q : Exit -> Act -> World -> Prop} {md : Region.Mode}
theorem wpOpIn_of_wpOp (l n : Nat) (hops : ∀ o ∈ ops, ∀ c, o.op ≠ .defer c) (hQ : ¬ LetsOut Q) {i : Nat} {K : Act -> World -> Prop} {a : Act} {w : World} (h : wpOp P ops Q i K a w) : wpOpIn (Fence.wide.inRound l) n P ops Q i K a w := by
 unfold wpOp at h
 unfold wpOpIn
 cases ho : ops[i]? with
 | none => simpa [ho] using h
 | some o =>
  simp only [ho] at h ⊢
  split
  · rename_i hw
    rw [if_pos hw] at h
    rcases h with h | ⟨_, h⟩
    · unfold Oper.wp at h
      unfold Oper.wpIn
      refine ⟨fun _ _ => trivial, ?_⟩
      rw [Oper.semAt_plain _ _ o (hops o (Array.mem_of_getElem? ho))]
      generalize (execOp a.eval o).run P w = r at *
      cases r with
      | ok x w' =>
       cases x <;> simp only [Oper.upon, Oper.uponIn] at h ⊢ <;> first
        | exact h
        | exact ⟨fun hd => (by cases hd), CallsIn.inRound l (callsIn_wide.2 h)⟩
        | exact ⟨fun hd => (by cases hd), fun c cs _ => by
            obtain ⟨v, w2, h1, h2⟩ := h c cs
            exact ⟨v, w2, h1, stepsIn_wide.2 h2⟩⟩
      | halt x w' => cases x <;> simp only [Oper.upon, Oper.uponIn] at h ⊢ <;> exact h
    · exact absurd h hQ
  · rename_i hw
    rw [if_neg hw] at h
    exact ⟨fun _ _ => trivial, h⟩
theorem wpAnyIn_of_wpAny (l n : Nat) (hops : ∀ o ∈ ops, ∀ c, o.op ≠ .defer c) (hQ : ¬ LetsOut Q) : ∀ (fuel : Nat) (listed : Array Bool) (a : Act) (w : World), wpAny P md ops Q fuel listed a w -> wpAnyIn (Fence.wide.inRound l) n P md ops Q fuel listed a w
 | 0, _, _, _, h => h
 | fuel + 1, _, _, _, h => ⟨h.1, fun i hi => wpOpIn_of_wpOp l n hops hQ (wpOp_mono (fun a w => wpAnyIn_of_wpAny l n hops hQ fuel _ a w) (h.2 i hi))⟩
theorem yt {l n id : Nat} {a : Act} {w : World} (S : World -> Prop) (hm : P.follows .mixedOrders = true) (hops : (ops.all fun o => match o.op with | .defer _ => false | _ => true) = true) (hQ : ¬ LetsOut Q) (hS : S w.drew)
    (h : S w.drew -> wpAnyH P .any ops Q S ops.size (Array.replicate ops.size false) a w.drew) : (Code.region id ops true).wpIn (Fence.wide.inRound l) n P Q a w :=
 wpIn_region_any hm (wpAnyIn_of_wpAny l n (fun o ho c e => by
  have := (Array.all_eq_true_iff_forall_mem.1 hops) o ho
  rw [e] at this
  cases this) hQ _ _ _ _ (wpAny_of_held _ _ _ _ (h hS)))
end
end
section
theorem zw {w : World} {g : Nat} {t : TypeId} {cs : Array Value} (h : Blk w g t cs) {n : Nat} (hn : n <= cs.size) : w.there g 0 n := fun j hj => by
 rw [Nat.zero_add]
 refine ⟨?_, h.frozen j⟩
 rw [h.cell, Array.getElem?_eq_getElem (show j < cs.size by omega)]; rfl
theorem zi {P : Program} {w : World} {g : Nat} {t ty : TypeId} {old cells : Array Value} (hg : Blk w g t old) (hi : (P.info? ty).map (·.size) = some cells.size) (hold : old.size = cells.size) (h1 : cells.all (·.oneCell') = true) :
    w.setCells g 0 cells.toList = w.setRow g cells := by
 have a := run_storeVar_row (P := P) w g t ty old cells hg hi hold h1
 have b := run_storeVar_mid (P := P) w g 0 ty cells (zw hg (Nat.le_of_eq hold.symm)) hi h1
 rw [a] at b
 injection b with _ h
 exact h.symm
theorem there_alloc {w : World} {b o n : Nat} (h : w.there b o n) (ob : Obj) : (w.alloc ob).there b o n := fun j hj => by
 obtain ⟨h1, h2⟩ := h j hj
 obtain ⟨v, hv⟩ := Option.isSome_iff_exists.1 h1
 have hb := World.block_lt_of_cell? w _ hv
 refine ⟨?_, ?_⟩
 · rw [World.cell?_of_block (Below.heap_alloc w ob _ hb), hv]; rfl
 · rw [World.frozen?_of_block (Below.heap_alloc w ob _ hb)]; exact h2
theorem there_grown {w w' : World} {b o n : Nat} (h : w.there b o n) (hg : w.grownBy w' none) : w'.there b o n := fun j hj => by
 obtain ⟨h1, h2⟩ := h j hj
 obtain ⟨v, hv⟩ := Option.isSome_iff_exists.1 h1
 have hb := World.block_lt_of_cell? w _ hv
 refine ⟨?_, ?_⟩
 · rw [World.cell?_of_block (hg.block _ hb (by simp)), hv]; rfl
 · rw [World.frozen?_of_block (hg.block _ hb (by simp))]; exact h2
end
section
theorem index16b (w : World) {I : Int} {cs : Array Value} {v : Value} (hb : 0 <= I /\ I < 16) (hv : cs[I.toNat]? = some v) : Sem.run Tryz.prog (Instr.index 24 (.agg cs) (.int .i64 I)) w = .ok v w :=
 uu (n := 16) Tryz.underlying24 (by kernel_rfl) (by kernel_rfl) hb hv
theorem info16b : (Tryz.prog.info? 24).map (·.size) = some 16 := by kernel_rfl
theorem ze4 {w : World} {base : Nat} {e : TypeId} {v : Value} {n : Nat} {L : List Int} (h : w.ownsRow base e 1 v n (L.map (Value.int .u8))) : ∃ A cap, v = .slice A n cap /\ BytesI w A L /\ n <= cap /\ L.length = n := by
 have hl : L.length = n := by have := h.1; simpa using this
 rcases h.2 with ⟨rfl, h0⟩ | ⟨g, cap, cur, rfl, hb, hg, hnc, _, hsz, ht⟩
 · subst h0
   exact ⟨none, 0, rfl, fun hne => absurd (List.eq_nil_of_length_eq_zero hl) hne, Nat.le_refl _, hl⟩
 · refine ⟨_, cap, rfl, fun _ => ⟨_, rfl, fun j hj => ?_⟩, hnc, hl⟩
   rw [zdf, Nat.zero_add, Joins.cell_of_block hg j, <- Array.getElem?_toList]
   have e1 : (cur.toList.take (n * 1))[j]? = cur.toList[j]? := by rw [List.getElem?_take, if_pos (by omega)]
   rw [<- e1, ht]
   simp [List.getD, List.getElem?_eq_getElem hj]
theorem zd3 (w : World) (d : List Int) (hd : d.length = 16) (s : ByteArray) (hs : xsOf s = d) :
    Calls Tryz.prog 59 #[.agg (arrV .u8 d)] w fun e w' => e = .returned (.string s) /\ w.grownBy w' none := by
 obtain ⟨i0, hi0, hz0, hz1, hz2⟩ := info_parts u8i
 have HI0 := hQ_ (aQ hi0 (aQ hz0 (aQ hz1 hz2)))
 obtain ⟨ds, hds⟩ : ∃ ds, ds = arrV .u8 d := ⟨_, rfl⟩
 have hsz : ds.size = 16 := by rw [hds, zf, hd]
 have HI := hQ_ (show (Tryz.prog.info? 24).map (·.size) = some ds.size by rw [hsz]; exact info16b)
 have HD := hQ_ (aQ hds (aQ hd hs))
 rw [<- hds]
 clear hi0 hz0 hz1 hz2 hds hsz hd hs
 go_enter Tryz.func59, Tryz.ntmps59
 have HB := hQ_ (Blk.new w 24 ds)
 have HO1 := hQ_ (World.ownsRow_lit (base := w.heap.size) (e := 5) (size := 1) (w.alloc (.cells ds 24)) #[] 0 (by simp) (by decide) rfl)
 have HG1 := hQ_ (za (World.grownBy_alloc w (.cells ds 24) none) (World.grownBy_alloc _ (.cells #[] 5) none))
 have HB2 := hQ_ (HB.out.alloc (.cells #[] 5))
 go_wp2_with (refine wpList_load_row rfl 24 _ rfl w.heap.size rfl 24 ds (0, 0) _ HB2.out Tryz.underlying24 rfl HI.out ?_)
 go_loopw [3, 8] (fun v i wr => ∃ k : Nat, k <= 16 /\ i = .int .i64 (k : Int) /\ wr.ownsRow w.heap.size 5 1 v k ((d.take k).map (Value.int .u8)) /\ w.grownBy wr none) (fun _ i _ => 16 - (intOf i).toNat)
 case atStart => exact ⟨0, by omega, rfl, by simpa using HO1.out, HG1.out⟩
 case round =>
  obtain ⟨k, hk, hi, hown, hK⟩ := hrel
  obtain ⟨I, hI⟩ : ∃ I : Int, I = (k : Int) := ⟨_, rfl⟩
  rw [<- hI] at hi
  subst hi
  by_cases hlt : k < 16
  · have d1 : decide (I < 16) = true := by simp; omega
    obtain ⟨y, hy⟩ : ∃ y, y = d.getD k 0 := ⟨_, rfl⟩
    have hnx : d.take (k + 1) = d.take k ++ [y] := by rw [hy]; exact zcr d k 0 (by rw [HD.out.2.1]; exact hlt)
    have kx := fun W => index16b W (I := I) (cs := ds) (v := .int .u8 y) ⟨by omega, by omega⟩ (by rw [HD.out.1, show I.toNat = k by omega, hy]; exact yr (by rw [HD.out.2.1]; exact hlt))
    have HI1 := hQ_ (aQ hI (aQ hlt hnx))
    have HO := hQ_ hown
    have HK := hQ_ hK
    clear hI hlt hnx hy hown hK hk
    go_wp2_with (at_builtin
                 refine vk rfl _ _ 81 rfl w.heap.size 5 5 i0 (.int .u8 0) 1 Tryz.underlying81 HI0.out.1 HI0.out.2.1 HI0.out.2.2.1 HI0.out.2.2.2 rfl _ _ _ rfl HO.out _ rfl rfl (by have := HI1.out.2.1; omega) (by omega) HK.out.size ?_
                 intro v' w3 hown3 hgrow
                 have HO3 := hQ_ hown3
                 have HK3 := hQ_ (yh HK.out hgrow HO.out (Nat.le_refl _))
                 clear hown3 hgrow)
    clear kx
    go_roundw
    case rel =>
     obtain ⟨hI, hlt, hnx⟩ := HI1.out
     exact ⟨k + 1, by omega, by rw [hI, w64 _ ⟨by omega, by omega⟩]; rfl, by rw [hnx, List.map_append]; exact HO3.out, HK3.out⟩
    case measure => obtain ⟨hI, hlt, _⟩ := HI1.out; simp only [intOf]; rw [w64 _ ⟨by omega, by omega⟩]; omega
  · have d1 : decide (I < 16) = false := by simp; omega
    obtain rfl : k = 16 := by omega
    rw [List.take_of_length_le (by rw [HD.out.2.1]; omega)] at hown
    obtain ⟨A', cap', rfl, hb, _, _⟩ := ze4 hown
    have hcv := zb2 wr A' 16 cap' s (by rw [<- z4, HD.out.2.2, HD.out.2.1]) (by rw [HD.out.2.2]; exact hb)
    have HK := hQ_ hK
    clear hI hlt hown hK hb hk
    go_wp2_with fail
    go_ret
    exact ⟨rfl, HK.out⟩
end
end Go.Proofs.YtigafnbofmiknaaGreatDoor
