/-
  Several texts in one: Rg, Rw, Tx, Di.
-/
import Derived.RangeFuncNested
import Derived.RangeFuncBound
import Derived.RangeFuncBox
import Derived.RangeFuncCalls
import Derived.RangeFuncLeaves
import Derived.Shelf.Abstract
import Derived.Shelf.RegionOpen
import Derived.OwnWalkIn
import Derived.TacticsInMore
import Derived.LoopNIn
import Derived.LoopIn
import Derived.BigRegionIn
import Derived.Deep.MidRow
import Derived.Deep.RegionHeld3
import Derived.Test.YtmoebkdbnldbdaaGreatDoorM20pb
import Derived.Test.YtmoebkdbnldbdaaGreatDoorM20pi
import Derived.Test.YtmoebkdbnldbdaaGreatDoorM20pc
/-
  Ranges over functions: what a caller's invariant may say; a body that makes memory and writes blocks of cells.
-/
namespace Go.Proofs.YtmoebkdbnldbdaaGreatDoor
open Go.RowKit Go.Shelf

/-- What has come when k rounds are over: f 0, .., f (k - 1). -/
def upto {α : Type} (f : Nat → α) (k : Nat) : List α := (List.range k).map f
theorem upto_succ {α : Type} (f : Nat → α) (k : Nat) : upto f (k + 1) = upto f k ++ [f k] := by simp [upto, List.range_succ]
theorem upto_length {α : Type} (f : Nat → α) (k : Nat) : (upto f k).length = k := by simp [upto]
theorem ownFrom_blk {β : Type} {B g : Nat} {t : TypeId} (f : β → Array Value) : OwnFrom B (fun s W => Blk W g t (f s)) :=
  Own.from (fun s _ _ _ hs hg hr => (grownBy_keeps_cells (k := g) (o := .cells (f s) t (0, 0)) hg hr hs rfl).trans hs) _
theorem ownFrom_grown {β : Type} {B : Nat} {w0 : World} (h : w0.heap.size ≤ B) : OwnFrom B (fun (_ : β) W => w0.grownBy W none) := fun s W W' row hs hg hr =>
  ⟨hg.os.trans hs.os, hg.tape.trans hs.tape, hg.output.trans hs.output, Nat.le_trans hs.size hg.size, fun k hk hne => (hg.block k (Nat.lt_of_lt_of_le hk hs.size) (by
    intro e
    have := (hr k e.symm).1
    omega)).trans (hs.block k hk hne)⟩
theorem ownFrom_own {β : Type} {B : Nat} {base size n : Nat} {e : TypeId} {v : Value} (f : β → List Value) : OwnFrom B (fun s W => W.ownsRow base e size v n (f s)) :=
  Own.from (fun s _ _ _ hs hg hr => by
    obtain ⟨h1, h2⟩ := hs
    refine ⟨h1, ?_⟩
    rcases h2 with h2 | ⟨g, cap, cur, hv, hb, hh, r⟩
    · exact .inl h2
    · exact .inr ⟨g, cap, cur, hv, hb, (grownBy_keeps_cells hg hr hh rfl).trans hh, r⟩) _
theorem ownFrom_pure {β : Type} {B : Nat} (p : β → Prop) : OwnFrom B (fun s (_ : World) => p s) := fun _ _ _ _ hs _ _ => hs
theorem keeps_row {W W' : World} {g : Nat} {t : TypeId} {cs : Array Value} (h : Blk W g t cs) (hg : W.grownBy W' (some g)) : KeepsOthers W W' :=
  KeepsOthers.of_grownBy hg (fun j o e ho => by
    obtain rfl := Option.some.inj e
    unfold Blk at h
    rw [h] at ho
    obtain rfl := Option.some.inj ho
    rfl)
theorem keeps_grown {W W' : World} (hg : W.grownBy W' none) : KeepsOthers W W' := KeepsOthers.of_grownBy hg (fun j o e => by cases e)
theorem below_grown0 {w w' : World} (h : w.grownBy w' none) : Below w.heap.size w w' := below_grown h (Nat.le_refl _) (fun _ e => by cases e)
theorem grown_below0 {w w' : World} (h : Below w.heap.size w w') : w.grownBy w' none := ⟨h.os, h.tape, h.output, h.size, fun k hk _ => h.block k hk⟩

section
variable {F : Fence} {n : Nat} {P : Program} {ops : Array Oper} {rest : List Oper} {o : Oper} {a : Act} {w : World} {Q : Exit → Act → World → Prop}
theorem wpListIn_store_row (hgd : o.guard = none) (ty : TypeId) (x y : Operand) (ho : o.op = .store ty x y)
    (g : Nat) (cells : Array Value) (hx : a.eval x = .pointer (some ⟨g, 0, none⟩)) (hy : a.eval y = .agg cells)
    (t : TypeId) (old : Array Value) (hg : w.heap[g]? = some (.cells old t (0, 0))) (hi : (P.info? ty).map (·.size) = some cells.size)
    (hold : old.size = cells.size) (h1 : cells.all (·.oneCell') = true)
    (h : wpListIn F n P ops Q rest (a.put o.dst undef) (w.setRow g cells)) : wpListIn F n P ops Q (o :: rest) a w := by
  refine wpListIn_plain hgd fun K hK => ?_
  unfold Oper.wpIn
  refine ⟨by simp [Oper.about, ho], ?_⟩
  rw [Oper.semAt_plain F _ _ (by rw [ho]; intro c hc'; cases hc')]
  unfold execOp
  simp only [ho, hx, hy, Instr.storeAt, Instr.sureAddr, Sem.run_bind, Sem.run_pure, Result.andThen_ok, run_storeVar_row w g t ty old cells hg hi hold h1]
  exact hK _ _ h
theorem wpListIn_load_row (hgd : o.guard = none) (ty : TypeId) (x : Operand) (ho : o.op = .load ty x)
    (g : Nat) (hx : a.eval x = .pointer (some ⟨g, 0, none⟩)) (t : TypeId) (cs : Array Value) (fr : Nat × Nat) (d : TypeDesc) (hg : w.heap[g]? = some (.cells cs t fr))
    (hu : P.underlying ty = some d) (hd : (match d with | .struct _ | .array _ _ => true | _ => false) = true) (hi : (P.info? ty).map (·.size) = some cs.size)
    (h : wpListIn F n P ops Q rest (a.put o.dst (.agg cs)) w) : wpListIn F n P ops Q (o :: rest) a w := by
  refine wpListIn_plain hgd fun K hK => ?_
  unfold Oper.wpIn
  refine ⟨by simp [Oper.about, ho], ?_⟩
  rw [Oper.semAt_plain F _ _ (by rw [ho]; intro c hc'; cases hc')]
  unfold execOp
  simp only [ho, hx, Instr.loadAt, Instr.sureAddr, Sem.run_bind, Sem.run_pure, Result.andThen_ok, run_loadVar_row w g t ty cs fr d hg hu hd hi]
  exact hK _ _ h
theorem wpListIn_load_mid (hgd : o.guard = none) (ty : TypeId) (x : Operand) (ho : o.op = .load ty x)
    (b off : Nat) (hx : a.eval x = .pointer (some ⟨b, off, none⟩)) (cs : List Value) (d : TypeDesc) (hc : w.rangeAt b off cs)
    (hu : P.underlying ty = some d) (hd : d.isRow = true) (hi : (P.info? ty).map (·.size) = some cs.length)
    (h : wpListIn F n P ops Q rest (a.put o.dst (.agg cs.toArray)) w) : wpListIn F n P ops Q (o :: rest) a w := by
  refine wpListIn_plain hgd fun K hK => ?_
  unfold Oper.wpIn
  refine ⟨by simp [Oper.about, ho], ?_⟩
  rw [Oper.semAt_plain F _ _ (by rw [ho]; intro c hc'; cases hc')]
  unfold execOp
  simp only [ho, hx, Instr.loadAt, Instr.sureAddr, Sem.run_bind, Sem.run_pure, Result.andThen_ok, run_loadVar_mid w b off ty cs d hc hu hd hi]
  exact hK _ _ h
theorem wpListIn_build_run (hgd : o.guard = none) (t : TypeId) (parts : Array (Nat × Operand)) (ho : o.op = .build t parts) (V : Value)
    (hr : Sem.run P (Instr.build t (parts.map fun (i, x) => (i, a.eval x))) w = .ok V w) (h : wpListIn F n P ops Q rest (a.put o.dst V) w) : wpListIn F n P ops Q (o :: rest) a w := by
  refine wpListIn_plain hgd fun K hK => ?_
  unfold Oper.wpIn
  refine ⟨by simp [Oper.about, ho], ?_⟩
  rw [Oper.semAt_plain F _ _ (by rw [ho]; intro c hc'; cases hc')]
  unfold execOp
  simp only [ho, Sem.run_bind, hr, Result.andThen_ok, Sem.run_pure]
  exact hK _ _ h
end

/-! ### A region that draws its order, in a round of a range over a function: as anywhere -/
section
variable {P : Program} {ops : Array Oper} {Q : Exit → Act → World → Prop} {md : Region.Mode}
theorem wpOpIn_of_wpOp (l n : Nat) (hops : ∀ o ∈ ops, ∀ c, o.op ≠ .defer c) (hQ : ¬ LetsOut Q) {i : Nat} {K : Act → World → Prop} {a : Act} {w : World} (h : wpOp P ops Q i K a w) : wpOpIn (Fence.wide.inRound l) n P ops Q i K a w := by
  unfold wpOp at h
  unfold wpOpIn
  cases ho : ops[i]? with
  | none => simpa [ho] using h
  | some o =>
    simp only [ho] at h ⊢
    split
    · rename_i hw
      rw [if_pos hw] at h
      rcases h with h | ⟨_, h⟩
      · unfold Oper.wp at h
        unfold Oper.wpIn
        refine ⟨fun _ _ => trivial, ?_⟩
        rw [Oper.semAt_plain _ _ o (hops o (Array.mem_of_getElem? ho))]
        generalize (execOp a.eval o).run P w = r at *
        cases r with
        | ok x w' =>
          cases x <;> simp only [Oper.upon, Oper.uponIn] at h ⊢ <;> first
            | exact h
            | exact ⟨fun hd => (by cases hd), CallsIn.inRound l (callsIn_wide.2 h)⟩
            | exact ⟨fun hd => (by cases hd), fun c cs _ => by
                obtain ⟨v, w2, h1, h2⟩ := h c cs
                exact ⟨v, w2, h1, stepsIn_wide.2 h2⟩⟩
        | halt x w' => cases x <;> simp only [Oper.upon, Oper.uponIn] at h ⊢ <;> exact h
      · exact absurd h hQ
    · rename_i hw
      rw [if_neg hw] at h
      exact ⟨fun _ _ => trivial, h⟩
theorem wpAnyIn_of_wpAny (l n : Nat) (hops : ∀ o ∈ ops, ∀ c, o.op ≠ .defer c) (hQ : ¬ LetsOut Q) : ∀ (fuel : Nat) (listed : Array Bool) (a : Act) (w : World), wpAny P md ops Q fuel listed a w → wpAnyIn (Fence.wide.inRound l) n P md ops Q fuel listed a w
  | 0, _, _, _, h => h
  | fuel + 1, _, _, _, h => ⟨h.1, fun i hi => wpOpIn_of_wpOp l n hops hQ (wpOp_mono (fun a w => wpAnyIn_of_wpAny l n hops hQ fuel _ a w) (h.2 i hi))⟩
theorem wpIn_region_held_round {l n id : Nat} {a : Act} {w : World} (S : World → Prop) (hm : P.follows .mixedOrders = true) (hops : (ops.all fun o => match o.op with | .defer _ => false | _ => true) = true) (hQ : ¬ LetsOut Q) (hS : S w.drew)
    (h : S w.drew → wpAnyH P .any ops Q S ops.size (Array.replicate ops.size false) a w.drew) : (Code.region id ops true).wpIn (Fence.wide.inRound l) n P Q a w :=
  wpIn_region_any hm (wpAnyIn_of_wpAny l n (fun o ho c e => by
    have := (Array.all_eq_true_iff_forall_mem.1 hops) o ho
    rw [e] at this
    cases this) hQ _ _ _ _ (wpAny_of_held _ _ _ _ (h hS)))
end
end Go.Proofs.YtmoebkdbnldbdaaGreatDoor
/-
  A whole row stored by 'setCells' is the row set.
-/
namespace Go.Proofs.YtmoebkdbnldbdaaGreatDoor
open Go.RowKit

theorem there_blk {w : World} {g : Nat} {t : TypeId} {cs : Array Value} (h : Blk w g t cs) {n : Nat} (hn : n ≤ cs.size) : w.there g 0 n := fun j hj => by
  rw [Nat.zero_add]
  refine ⟨?_, h.frozen j⟩
  rw [h.cell, Array.getElem?_eq_getElem (show j < cs.size by omega)]; rfl
theorem setCells_row {P : Program} {w : World} {g : Nat} {t ty : TypeId} {old cells : Array Value} (hg : Blk w g t old) (hi : (P.info? ty).map (·.size) = some cells.size) (hold : old.size = cells.size) (h1 : cells.all (·.oneCell') = true) :
    w.setCells g 0 cells.toList = w.setRow g cells := by
  have a := run_storeVar_row (P := P) w g t ty old cells hg hi hold h1
  have b := run_storeVar_mid (P := P) w g 0 ty cells (there_blk hg (Nat.le_of_eq hold.symm)) hi h1
  rw [a] at b
  injection b with _ h
  exact h.symm
theorem there_alloc {w : World} {b o n : Nat} (h : w.there b o n) (ob : Obj) : (w.alloc ob).there b o n := fun j hj => by
  obtain ⟨h1, h2⟩ := h j hj
  obtain ⟨v, hv⟩ := Option.isSome_iff_exists.1 h1
  have hb := World.block_lt_of_cell? w _ hv
  refine ⟨?_, ?_⟩
  · rw [World.cell?_of_block (Below.heap_alloc w ob _ hb), hv]; rfl
  · rw [World.frozen?_of_block (Below.heap_alloc w ob _ hb)]; exact h2
theorem there_grown {w w' : World} {b o n : Nat} (h : w.there b o n) (hg : w.grownBy w' none) : w'.there b o n := fun j hj => by
  obtain ⟨h1, h2⟩ := h j hj
  obtain ⟨v, hv⟩ := Option.isSome_iff_exists.1 h1
  have hb := World.block_lt_of_cell? w _ hv
  refine ⟨?_, ?_⟩
  · rw [World.cell?_of_block (hg.block _ hb (by simp)), hv]; rfl
  · rw [World.frozen?_of_block (hg.block _ hb (by simp))]; exact h2
end Go.Proofs.YtmoebkdbnldbdaaGreatDoor
/-
  quorateref02.Text: a digest's bytes as a text.
-/
namespace Go.Proofs.YtmoebkdbnldbdaaGreatDoor
open Go.RowKit

theorem index16b (w : World) {I : Int} {cs : Array Value} {v : Value} (hb : 0 ≤ I ∧ I < 16) (hv : cs[I.toNat]? = some v) : Sem.run Tryz.prog (Instr.index 24 (.agg cs) (.int .i64 I)) w = .ok v w :=
  run_index_agg (n := 16) Tryz.underlying24 (by kernel_rfl) (by kernel_rfl) hb hv
theorem info16b : (Tryz.prog.info? 24).map (·.size) = some 16 := by kernel_rfl
theorem own_str {w : World} {base : Nat} {e : TypeId} {v : Value} {n : Nat} {L : List Int} (h : w.ownsRow base e 1 v n (L.map (Value.int .u8))) : ∃ A cap, v = .slice A n cap ∧ BytesI w A L ∧ n ≤ cap ∧ L.length = n := by
  have hl : L.length = n := by have := h.1; simpa using this
  rcases h.2 with ⟨rfl, h0⟩ | ⟨g, cap, cur, rfl, hb, hg, hnc, _, hsz, ht⟩
  · subst h0
    exact ⟨none, 0, rfl, fun hne => absurd (List.eq_nil_of_length_eq_zero hl) hne, Nat.le_refl _, hl⟩
  · refine ⟨_, cap, rfl, fun _ => ⟨_, rfl, fun j hj => ?_⟩, hnc, hl⟩
    rw [add_none, Nat.zero_add, Joins.cell_of_block hg j, ← Array.getElem?_toList]
    have e1 : (cur.toList.take (n * 1))[j]? = cur.toList[j]? := by rw [List.getElem?_take, if_pos (by omega)]
    rw [← e1, ht]
    simp [List.getD, List.getElem?_eq_getElem hj]

set_option maxRecDepth 100000 in
set_option maxHeartbeats 2000000 in
theorem text_is (w : World) (d : List Int) (hd : d.length = 16) (s : ByteArray) (hs : xsOf s = d) :
    Calls Tryz.prog 52 #[.agg (arrV .u8 d)] w fun e w' => e = .returned (.string s) ∧ w.grownBy w' none := by
  obtain ⟨i0, hi0, hz0, hz1, hz2⟩ := info_parts u8i
  have HI0 := Lib.hid (And.intro hi0 (And.intro hz0 (And.intro hz1 hz2)))
  obtain ⟨ds, hds⟩ : ∃ ds, ds = arrV .u8 d := ⟨_, rfl⟩
  have hsz : ds.size = 16 := by rw [hds, arr_size, hd]
  have HI := Lib.hid (show (Tryz.prog.info? 24).map (·.size) = some ds.size by rw [hsz]; exact info16b)
  have HD := Lib.hid (And.intro hds (And.intro hd hs))
  rw [← hds]
  clear hi0 hz0 hz1 hz2 hds hsz hd hs
  go_enter Tryz.func52, Tryz.ntmps52
  have HB := Lib.hid (Blk.new w 24 ds)
  have HO1 := Lib.hid (World.ownsRow_lit (base := w.heap.size) (e := 5) (size := 1) (w.alloc (.cells ds 24)) #[] 0 (by simp) (by decide) rfl)
  have HG1 := Lib.hid (grown_trans (World.grownBy_alloc w (.cells ds 24) none) (World.grownBy_alloc _ (.cells #[] 5) none))
  have HB2 := Lib.hid (HB.out.alloc (.cells #[] 5))
  go_wp2_with (refine wpList_load_row rfl 24 _ rfl w.heap.size rfl 24 ds (0, 0) _ HB2.out Tryz.underlying24 rfl HI.out ?_)
  go_loopw [3, 8] (fun v i wr => ∃ k : Nat, k ≤ 16 ∧ i = .int .i64 (k : Int) ∧ wr.ownsRow w.heap.size 5 1 v k ((d.take k).map (Value.int .u8)) ∧ w.grownBy wr none) (fun _ i _ => 16 - (intOf i).toNat)
  case atStart => exact ⟨0, by omega, rfl, by simpa using HO1.out, HG1.out⟩
  case round =>
    obtain ⟨k, hk, hi, hown, hK⟩ := hrel
    obtain ⟨I, hI⟩ : ∃ I : Int, I = (k : Int) := ⟨_, rfl⟩
    rw [← hI] at hi
    subst hi
    by_cases hlt : k < 16
    · have d1 : decide (I < 16) = true := by simp; omega
      obtain ⟨y, hy⟩ : ∃ y, y = d.getD k 0 := ⟨_, rfl⟩
      have hnx : d.take (k + 1) = d.take k ++ [y] := by rw [hy]; exact take_push' d k 0 (by rw [HD.out.2.1]; exact hlt)
      have kx := fun W => index16b W (I := I) (cs := ds) (v := .int .u8 y) ⟨by omega, by omega⟩ (by rw [HD.out.1, show I.toNat = k by omega, hy]; exact arr_get (by rw [HD.out.2.1]; exact hlt))
      have HI1 := Lib.hid (And.intro hI (And.intro hlt hnx))
      have HO := Lib.hid hown
      have HK := Lib.hid hK
      clear hI hlt hnx hy hown hK hk
      go_wp2_with (at_builtin
                   refine wpList_push rfl _ _ 61 rfl w.heap.size 5 5 i0 (.int .u8 0) 1 Tryz.underlying61 HI0.out.1 HI0.out.2.1 HI0.out.2.2.1 HI0.out.2.2.2 rfl _ _ _ rfl HO.out _ rfl rfl (by have := HI1.out.2.1; omega) (by omega) HK.out.size ?_
                   intro v' w3 hown3 hgrow
                   have HO3 := Lib.hid hown3
                   have HK3 := Lib.hid (grown_own HK.out hgrow HO.out (Nat.le_refl _))
                   clear hown3 hgrow)
      clear kx
      go_roundw
      case rel =>
        obtain ⟨hI, hlt, hnx⟩ := HI1.out
        exact ⟨k + 1, by omega, by rw [hI, w64 _ ⟨by omega, by omega⟩]; rfl, by rw [hnx, List.map_append]; exact HO3.out, HK3.out⟩
      case measure => obtain ⟨hI, hlt, _⟩ := HI1.out; simp only [intOf]; rw [w64 _ ⟨by omega, by omega⟩]; omega
    · have d1 : decide (I < 16) = false := by simp; omega
      obtain rfl : k = 16 := by omega
      rw [List.take_of_length_le (by rw [HD.out.2.1]; omega)] at hown
      obtain ⟨A', cap', rfl, hb, _, _⟩ := own_str hown
      have hcv := str_run wr A' 16 cap' s (by rw [← xsOf_length, HD.out.2.2, HD.out.2.1]) (by rw [HD.out.2.2]; exact hb)
      have HK := Lib.hid hK
      clear hI hlt hown hK hb hk
      go_wp2_with fail
      go_ret
      exact ⟨rfl, HK.out⟩
end Go.Proofs.YtmoebkdbnldbdaaGreatDoor
/-
  Digests: as lists, as cells, as rows in memory.
-/
namespace Go.Proofs.YtmoebkdbnldbdaaGreatDoor
open Go.RowKit

/-- A new row of slices that hold these bytes. -/
theorem parts_new (w : World) (t : TypeId) (vs : Array Value) (ps : List (List Int)) (h : ∀ j, j < ps.length → ∃ B m c, vs[j]? = some (.slice B m c) ∧ (ps.getD j []).length = m ∧ m ≤ c ∧ BytesI (w.alloc (.cells vs t)) B (ps.getD j [])) :
    PartsI (w.alloc (.cells vs t)) (some ⟨w.heap.size, 0, none⟩) ps := fun j hj => by
  obtain ⟨B, m, c, h1, h2, h3, h4⟩ := h j hj
  exact ⟨_, B, m, c, rfl, by rw [add_none, Nat.zero_add, (Blk.new w t vs).cell]; exact h1, h2, h3, h4⟩
theorem bytes_blk {w : World} {g : Nat} {t : TypeId} {l : List Int} (h : Blk w g t (arrV .u8 l)) : BytesI w (some ⟨g, 0, none⟩) l := BytesI.blk h (fun j hj => by rw [Nat.zero_add]; exact ⟨hj, rfl⟩)
theorem info16 : (Tryz.prog.info? 24).map (·.size) = some 16 := by kernel_rfl
theorem z16run (w : World) : Sem.run Tryz.prog (zeroValue 24) w = .ok (.agg (arrV .u8 (List.replicate 16 0))) w := zrun w (by kernel_rfl)
theorem dig_slice (w : World) (b : Nat) : Sem.run Tryz.prog (Instr.sliceAt 24 (.pointer (some ⟨b, 0, none⟩)) none none none) w = .ok (.slice (some ⟨b, 0, none⟩) 16 16) w :=
  slice_all (P := Tryz.prog) (w := w) (b := b) (o := 0) (t := 24) Tryz.underlying24 (by kernel_rfl)
theorem dig_str (x : List Int) (h : isDig x) : ∃ s : ByteArray, xsOf s = x := ints_str x h.2
theorem byte_str (n : Int) : ∃ s : ByteArray, xsOf s = [n % 256] := ints_str [n % 256] (fun z hz => by simp at hz; omega)
theorem texts_new (w : World) (t : TypeId) (ts : List ByteArray) : TextsI (w.alloc (.cells (ts.map Value.string).toArray t)) (some ⟨w.heap.size, 0, none⟩) ts := fun j hj => ⟨_, rfl, by
  rw [add_none, Nat.zero_add, (Blk.new w t _).cell]
  simp [List.getD, List.getElem?_eq_getElem hj]⟩
theorem results_cell_t {fn : Func} {s u : Tmp} {t : TypeId} (h : fn.results = #[.cell s t, .tmp u]) (tmps : Array Value) (P : Program) (w : World) (p : Addr) (v : Value)
    (hp : tmps.getD s undef = .pointer (some p)) (hl : (loadVar t p).run P w = .ok v w) : (results fn tmps).run P w = .ok (.tuple #[v, tmps.getD u undef]) w := by
  have hq : tmps[s]?.getD undef = .pointer (some p) := by simpa using hp
  simp [results, h, hq, asAddr, hl]
theorem zero_run3 {P : Program} {t : TypeId} {v : Value} (w : World) (h : (P.info? t).bind (·.zero) = some v) : Sem.run P (zeroValue t) w = .ok v w := by
  cases hq : P.info? t with
  | none => simp [hq] at h
  | some i =>
    have h1 : i.zero = some v := by simpa [hq] using h
    simp [zeroValue, typeInfo, hq, h1]
theorem eqDK20 (w : World) (l1 l2 : List Int) (h1 : l1.length = 16) (h2 : l2.length = 16) : Sem.run Tryz.prog (Op.equalIn 10000 24 (.agg (arrV .u8 l1)) (.agg (arrV .u8 l2))) w = .ok (decide (l1 = l2)) w :=
  eq_arr w 9998 Tryz.underlying24 (by kernel_rfl) Tryz.underlying5 (by kernel_rfl) (by kernel_rfl) l1 l2 h1 h2
theorem eqDG (l : List Int) (h : l.length = 16) (ds : Array Value) (hd : ds = arrV .u8 l) (w : World) : Sem.run Tryz.prog (Op.equalIn 10000 24 (.agg ds) (.agg ds)) w = .ok true w := by
  rw [hd, eqDK20 w l l h h]; simp
theorem row_load (g : Nat) (cs : Array Value) (hs : cs.size = 16) (V : World) (h : Blk V g 24 cs) : Sem.run Tryz.prog (Instr.loadAt 24 (.pointer (some ⟨g, 0, none⟩))) V = .ok (.agg cs) V := by
  have := run_loadAt_mid (P := Tryz.prog) V g 0 24 cs.toList _ (fun j v hv => by rw [Nat.zero_add, h.cell, ← Array.getElem?_toList]; exact hv) Tryz.underlying24 rfl (by rw [Array.length_toList, hs]; exact info16)
  rwa [Array.toArray_toList] at this
theorem addr_zero_addK20 (b j : Nat) : (⟨b, 0, none⟩ : Addr).add j = ⟨b, j, none⟩ := by
  have h : ∀ o, (⟨b, o, none⟩ : Addr).add j = ⟨b, o + j, none⟩ := fun o => by simp [Addr.add]
  have := h 0
  rwa [Nat.zero_add] at this
theorem own_keep {w w' : World} {base : Nat} {e : TypeId} {size n : Nat} {v : Value} {xs : List Value} (h : w.ownsRow base e size v n xs) (hg : w.grownBy w' none) : w'.ownsRow base e size v n xs :=
  h.kept hg (by cases v.ownBlock with
    | none => exact .inl rfl
    | some g => exact .inr (by simp))
def zeroC : List Int := List.replicate 16 0
/-- A row of digests in memory. -/
def DigsAt (w : World) (b off : Nat) (ps : List (List Int)) : Prop := ∀ j, j < ps.length → w.rangeAt b (off + j * 16) (arrV .u8 (ps.getD j zeroC)).toList
theorem range_grown {w w' : World} {b o : Nat} {cs : List Value} (h : w.rangeAt b o cs) (hk : w.grownBy w' none) : w'.rangeAt b o cs := fun j v hv => hk.cell (h j v hv) (by simp)
theorem DigsAt.grown {w w' : World} {b off : Nat} {ps : List (List Int)} (h : DigsAt w b off ps) (hk : w.grownBy w' none) : DigsAt w' b off ps := fun j hj => range_grown (h j hj) hk
theorem zeroC_dig : isDig zeroC := ⟨rfl, fun z hz => by simp [zeroC] at hz; omega⟩
theorem getD_dig {ps : List (List Int)} (h : ∀ p ∈ ps, isDig p) (j : Nat) : isDig (ps.getD j zeroC) := by
  by_cases hj : j < ps.length
  · rw [List.getD, List.getElem?_eq_getElem hj]; exact h _ (List.getElem_mem hj)
  · rw [List.getD, List.getElem?_eq_none (by omega)]; exact zeroC_dig
theorem there_to {w w' : World} {row : Option Nat} {b o n : Nat} (h : w.there b o n) (hg : w.grownBy w' row) (hr : some b ≠ row) : w'.there b o n := fun j hj => by
  obtain ⟨h1, h2⟩ := h j hj
  obtain ⟨v, hv⟩ := Option.isSome_iff_exists.1 h1
  have hb := World.block_lt_of_cell? w _ hv
  refine ⟨?_, ?_⟩
  · rw [World.cell?_of_block (hg.block _ hb hr), hv]; rfl
  · rw [World.frozen?_of_block (hg.block _ hb hr)]; exact h2
theorem range_to {w w' : World} {row : Option Nat} {b o : Nat} {cs : List Value} (h : w.rangeAt b o cs) (hg : w.grownBy w' row) (hr : some b ≠ row) : w'.rangeAt b o cs := fun j v hv => hg.cell (h j v hv) hr
theorem there_sub {w : World} {b o n o' n' : Nat} (h : w.there b o n) (h1 : o ≤ o') (h2 : o' + n' ≤ o + n) : w.there b o' n' := fun j hj => by
  have := h (o' - o + j) (by omega)
  rwa [show o + (o' - o + j) = o' + j by omega] at this
theorem grown_setCells {w : World} (b : Nat) : ∀ (vs : List Value) (o : Nat) (w1 : World), w.grownBy w1 (some b) → w.grownBy (w1.setCells b o vs) (some b)
  | [], _, _, h => h
  | v :: r, o, w1, h => by
    rw [World.setCells]
    exact grown_setCells b r (o + 1) _ (grown_far h (.inr rfl) v)
theorem ownFrom_there {β : Type} {B b o n : Nat} (h : b < B) : OwnFrom B (fun (_ : β) W => W.there b o n) := fun s W W' row hs hg hr => there_to hs hg (fun e => by have := (hr b e.symm).1; omega)
theorem ownFrom_ranges {α : Type} {B b : Nat} (f : α → Nat) (cs : α → List Value) (h : b < B) : OwnFrom B (fun (pre : List α) W => ∀ x ∈ pre, W.rangeAt b (f x) (cs x)) := fun s W W' row hs hg hr x hx => range_to (hs x hx) hg (fun e => by have := (hr b e.symm).1; omega)
theorem wpListIn_make_run {F : Fence} {n : Nat} {P : Program} {ops : Array Oper} {rest : List Oper} {o : Oper} {a : Act} {w w' : World} {Q : Exit → Act → World → Prop} (hg : o.guard = none) (t : TypeId) (l c : Operand) (ho : o.op = .makeSlice t l c) (vl vc V : Value) (hl : a.eval l = vl) (hc : a.eval c = vc)
    (hr : Sem.run P (Instr.makeSlice t vl vc) w = .ok V w') (h : wpListIn F n P ops Q rest (a.put o.dst V) w') : wpListIn F n P ops Q (o :: rest) a w := by
  refine wpListIn_plain hg fun K hK => ?_
  unfold Oper.wpIn
  refine ⟨by simp [Oper.about, ho], ?_⟩
  rw [Oper.semAt_plain F _ _ (by rw [ho]; intro c hc'; cases hc')]
  unfold execOp
  simp only [ho, hl, hc, Sem.run_bind, hr, Result.andThen_ok]
  exact hK _ _ h
theorem ownFrom_grownr {β : Type} {B : Nat} {w0 : World} {r : Option Nat} (h : w0.heap.size ≤ B) : OwnFrom B (fun (_ : β) W => w0.grownBy W r) := fun s W W' row hs hg hr =>
  ⟨hg.os.trans hs.os, hg.tape.trans hs.tape, hg.output.trans hs.output, Nat.le_trans hs.size hg.size, fun k hk hne => (hg.block k (Nat.lt_of_lt_of_le hk hs.size) (by
    intro e
    have := (hr k e.symm).1
    omega)).trans (hs.block k hk hne)⟩
theorem grown_own_r {a b c : World} {r : Option Nat} {v : Value} {base size : Nat} {e : TypeId} {n : Nat} {xs : List Value} (h : a.grownBy b r) (k : b.grownBy c v.ownBlock) (hv : b.ownsRow base e size v n xs) (hB : a.heap.size ≤ base) : a.grownBy c r := by
  cases hg : v.ownBlock with
  | none => rw [hg] at k; exact grown_trans h (grown_weak k _)
  | some g => rw [hg] at k; exact grown_fresh h k (Nat.le_trans hB (hv.lt g hg).1)
theorem keeps_own {b c : World} {v : Value} {base size : Nat} {e : TypeId} {n : Nat} {xs : List Value} (k : b.grownBy c v.ownBlock) (hv : b.ownsRow base e size v n xs) : KeepsOthers b c :=
  KeepsOthers.of_grownBy k fun j o ej hj => by
    rcases hv.2 with ⟨rfl, _⟩ | ⟨g, cap, cur, rfl, _, hgb, _⟩
    · simp [Value.ownBlock] at ej
    · obtain rfl : g = j := by simpa [Value.ownBlock] using ej
      rw [hgb] at hj; cases hj; rfl
theorem ownFrom_axK20 {B base : Nat} (p : Nat → Prop) (t : TypeId) (cs : Array Value) : OwnFrom B (fun (_ : Unit) W => ∃ g, base ≤ g ∧ p g ∧ Blk W g t cs) := fun _ _ _ _ hs hg hr => by
  obtain ⟨g, h1, h2, h3⟩ := hs
  exact ⟨g, h1, h2, (grownBy_keeps_cells hg (fun r e => (hr r e).2) h3 rfl).trans h3⟩
theorem range_blk {w : World} {g : Nat} {t : TypeId} {cs : Array Value} (h : Blk w g t cs) : w.rangeAt g 0 cs.toList := fun j v hv => by
  rw [Nat.zero_add, h.cell, ← Array.getElem?_toList]; exact hv
theorem wpList_load_row_w {P : Program} {ops : Array Oper} {rest : List Oper} {o : Oper} {a : Act} {w : World} {Q : Exit → Act → World → Prop} (hw : Region.wanted o (yielded ops a.tmps) = true) (ty : TypeId) (x : Operand) (ho : o.op = .load ty x)
    (g : Nat) (hx : a.eval x = .pointer (some ⟨g, 0, none⟩)) (t : TypeId) (cs : Array Value) (fr : Nat × Nat) (d : TypeDesc) (hg : w.heap[g]? = some (.cells cs t fr))
    (hu : P.underlying ty = some d) (hd : (match d with | .struct _ | .array _ _ => true | _ => false) = true) (hi : (P.info? ty).map (·.size) = some cs.size)
    (h : wpList P ops Q rest (a.put o.dst (.agg cs)) w) : wpList P ops Q (o :: rest) a w :=
  wpList_step fun K hK => by
    rw [if_pos hw]
    unfold Oper.wp execOp
    simp only [ho, hx, Instr.loadAt, Instr.sureAddr, Sem.run_bind, Sem.run_pure, Result.andThen_ok, run_loadVar_row w g t ty cs fr d hg hu hd hi]
    exact hK _ _ h
theorem text_v (w : World) (d : List Int) (hd : d.length = 16) (s : ByteArray) (hs : xsOf s = d) (ds : Array Value) (h : ds = arrV .u8 d) :
    Calls Tryz.prog 52 #[.agg ds] w fun e w' => e = .returned (.string s) ∧ w.grownBy w' none := by
  subst h
  exact text_is w d hd s hs
end Go.Proofs.YtmoebkdbnldbdaaGreatDoor
