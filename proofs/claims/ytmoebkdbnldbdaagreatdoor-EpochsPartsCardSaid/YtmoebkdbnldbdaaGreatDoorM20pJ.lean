/-
  Several texts in one: DkC, Wh, DkR, DkQ.
-/
import Derived.Test.YtmoebkdbnldbdaaGreatDoorM20pI
import Derived.Maps.OwnSet
import Derived.MapFrom
import Derived.Test.YtmoebkdbnldbdaaGreatDoorM20pr
import Derived.Deep.RegionHeld3
import Derived.Laws.Rows
import Derived.Sort.CutIn
import Derived.Maps.OwnIn
import Derived.Sort.MapsRangeIn
/-
  Disk: a map is cleared.
-/
namespace Go.Proofs.YtmoebkdbnldbdaaGreatDoor
open Go.RowKit Go.Maps Go.ChangeMaps Go.MapKept

theorem clear_own {P : Program} {w : World} {t k e : TypeId} {R : Value → Option (DataW Unit × List MemPlace)} {b n : Nat} {D : DataW Unit} (h : w.ownsMap P k R b n D) (ht : P.underlying t = some (.map k e)) (ty : TypeId) :
    ∃ w', (Builtin.clear_ #[t] ty #[.map (some b)]).run P w = .ok (.tuple #[]) w' ∧ w'.ownsMap P k R b 0 (.map []) ∧ w.mapTurned w' b := by
  obtain ⟨es, clock, hb, F, hs, rfl⟩ := h
  refine ⟨setBlock w b (.map #[] clock), ?_, ⟨#[], clock, heap_setBlock_same hb _, ⟨by simp, stamped_empty clock, by simp⟩, Nat.le_refl _, rfl⟩, ⟨es, clock, #[], clock, hb, rfl⟩⟩
  simp [Builtin.clear_, run_underlying ht, MapKept.run_getObj_map hb, MapKept.run_setObj_map _ hb, Result.andThen, setBlock]
theorem results_sec_tmp {fn : Func} {s u : Tmp} {ty : TypeId} (h : fn.results = #[.cell s ty, .tmp u]) (tmps : Array Value) {P : Program} (w : World) (a : Addr) (v : Value) (ha : tmps.getD s undef = .pointer (some a)) (hv : (loadVar ty a).run P w = .ok v w) :
    (results fn tmps).run P w = .ok (.tuple #[v, tmps.getD u undef]) w := by
  have ha2 : tmps[s]?.getD undef = .pointer (some a) := by simpa using ha
  simp [results, h, ha2, asAddr, hv, Result.andThen]
end Go.Proofs.YtmoebkdbnldbdaaGreatDoor
/-
  Drawn regions in a wide fence, outside a round.
-/
namespace Go.Proofs.YtmoebkdbnldbdaaGreatDoor
open Go.RowKit Go.Shelf

section
variable {P : Program} {ops : Array Oper} {Q : Exit → Act → World → Prop} {md : Region.Mode}
theorem wpOpIn_of_wpOp_wide (n : Nat) (hops : ∀ o ∈ ops, ∀ c, o.op ≠ .defer c) (hQ : ¬ LetsOut Q) {i : Nat} {K : Act → World → Prop} {a : Act} {w : World} (h : wpOp P ops Q i K a w) : wpOpIn Fence.wide n P ops Q i K a w := by
  unfold wpOp at h
  unfold wpOpIn
  cases ho : ops[i]? with
  | none => simpa [ho] using h
  | some o =>
    simp only [ho] at h ⊢
    split
    · rename_i hw
      rw [if_pos hw] at h
      rcases h with h | ⟨_, h⟩
      · unfold Oper.wp at h
        unfold Oper.wpIn
        refine ⟨fun _ _ => trivial, ?_⟩
        rw [Oper.semAt_plain _ _ o (hops o (Array.mem_of_getElem? ho))]
        generalize (execOp a.eval o).run P w = r at *
        cases r with
        | ok x w' =>
          cases x <;> simp only [Oper.upon, Oper.uponIn] at h ⊢ <;> first
            | exact h
            | exact ⟨fun hd => (by cases hd), callsIn_wide.2 h⟩
            | exact ⟨fun hd => (by cases hd), fun c cs _ => by
                obtain ⟨v, w2, h1, h2⟩ := h c cs
                exact ⟨v, w2, h1, stepsIn_wide.2 h2⟩⟩
        | halt x w' => cases x <;> simp only [Oper.upon, Oper.uponIn] at h ⊢ <;> exact h
      · exact absurd h hQ
    · rename_i hw
      rw [if_neg hw] at h
      exact ⟨fun _ _ => trivial, h⟩
theorem wpAnyIn_of_wpAny_wide (n : Nat) (hops : ∀ o ∈ ops, ∀ c, o.op ≠ .defer c) (hQ : ¬ LetsOut Q) : ∀ (fuel : Nat) (listed : Array Bool) (a : Act) (w : World), wpAny P md ops Q fuel listed a w → wpAnyIn Fence.wide n P md ops Q fuel listed a w
  | 0, _, _, _, h => h
  | fuel + 1, _, _, _, h => ⟨h.1, fun i hi => wpOpIn_of_wpOp_wide n hops hQ (wpOp_mono (fun a w => wpAnyIn_of_wpAny_wide n hops hQ fuel _ a w) (h.2 i hi))⟩
theorem wpIn_region_held_wide {n id : Nat} {a : Act} {w : World} (S : World → Prop) (hm : P.follows .mixedOrders = true) (hops : (ops.all fun o => match o.op with | .defer _ => false | _ => true) = true) (hQ : ¬ LetsOut Q) (hS : S w.drew)
    (h : S w.drew → wpAnyH P .any ops Q S ops.size (Array.replicate ops.size false) a w.drew) : (Code.region id ops true).wpIn Fence.wide n P Q a w :=
  wpIn_region_any hm (wpAnyIn_of_wpAny_wide n (fun o ho c e => by
    have := (Array.all_eq_true_iff_forall_mem.1 hops) o ho
    rw [e] at this
    cases this) hQ _ _ _ _ (wpAny_of_held _ _ _ _ (h hS)))
end
end Go.Proofs.YtmoebkdbnldbdaaGreatDoor
/-
  Disk: Read.
-/
namespace Go.Proofs.YtmoebkdbnldbdaaGreatDoor
open Go.RowKit Go.Maps

theorem zero_sec {P : Program} {t : TypeId} {v : Value} (w : World) (h : (P.info? t).bind (·.zero) = some v) : Sem.run P (zeroValue t) w = .ok v w := by
  cases hq : P.info? t with
  | none => simp [hq] at h
  | some i =>
    have h1 : i.zero = some v := by simpa [hq] using h
    simp [zeroValue, typeInfo, hq, h1]
theorem ready_store_row {P : Program} {ops : Array Oper} {o : Oper} {a : Act} {w : World} {K : Act → World → Prop} {Q : Exit → Act → World → Prop} (hw : Region.wanted o (yielded ops a.tmps) = true) (ty : TypeId) (x y : Operand) (ho : o.op = .store ty x y)
    (g : Nat) (cells : Array Value) (hx : a.eval x = .pointer (some ⟨g, 0, none⟩)) (hy : a.eval y = .agg cells)
    (t : TypeId) (old : Array Value) (hg : w.heap[g]? = some (.cells old t (0, 0))) (hi : (P.info? ty).map (·.size) = some cells.size)
    (hold : old.size = cells.size) (h1 : cells.all (·.oneCell') = true)
    (h : K (a.put o.dst undef) (w.setRow g cells)) : if Region.wanted o (yielded ops a.tmps) = true then Oper.wp P o a w K Q else K (a.put o.dst undef) w := by
  rw [if_pos hw]
  unfold Oper.wp execOp
  simp only [ho, hx, hy, Instr.storeAt, Instr.sureAddr, Sem.run_bind, Sem.run_pure, Result.andThen_ok, run_storeVar_row w g t ty old cells hg hi hold h1]
  exact h
def zeroR : List Int := List.replicate 64 0
theorem sec_val {v : Value} {y : DataW Unit} {ps : List MemPlace} (h : secR 64 v = some (y, ps)) : ∃ r : List Int, r.length = 64 ∧ ∃ cs, v = .agg cs ∧ cs = (r.map (Value.int .u8)).toArray ∧ cs.size = 64 ∧ cs.all (·.oneCell') = true ∧ y = secD r := by
  obtain ⟨r, hr, rfl, he⟩ := secR_inv h
  refine ⟨r, hr, _, rfl, rfl, by simpa using hr, by simp [Array.all_eq_true_iff_forall_mem, Value.oneCell'], (Prod.mk.inj he).1⟩
theorem flat64 : ∀ (ls : List (List Int)), (∀ r ∈ ls, r.length = 64) → ∀ (k : Nat) (hk : k < ls.length) (j : Nat) (v : Value), (ls[k].map (Value.int .u8))[j]? = some v → (ls.flatMap fun r => r.map (Value.int .u8))[k * 64 + j]? = some v
  | a :: ls, hr, 0, _, j, v, hj => by
    have hj2 : j < (a.map (Value.int .u8)).length := (List.getElem?_eq_some_iff.1 hj).1
    rw [List.flatMap_cons, Nat.zero_mul, Nat.zero_add, List.getElem?_append_left hj2]
    exact hj
  | a :: ls, hr, k + 1, hk, j, v, hj => by
    have ha : (a.map (Value.int .u8)).length = 64 := by simpa using hr a List.mem_cons_self
    rw [List.flatMap_cons, List.getElem?_append_right (by omega), ha, show (k + 1) * 64 + j - 64 = k * 64 + j by omega]
    exact flat64 ls (fun r h => hr r (List.mem_cons_of_mem _ h)) k (by simpa using hk) j v hj
def readS (z : DkS) (k : Nat) : List Int := (z.wr[k]?.join).getD (z.syn.getD k [])
end Go.Proofs.YtmoebkdbnldbdaaGreatDoor
/-
  Disk (pure): some of what was written is moved to the sectors.
-/

namespace Go.Proofs.YtmoebkdbnldbdaaGreatDoor
open Go.RowKit Go.Maps

/-- The sectors where those places that p says have taken what was written there. -/
def mgS (syn : List (List Int)) (wr : List (Option (List Int))) (p : Nat → Bool) : List (List Int) :=
  (List.range syn.length).map fun i => if p i then (wr[i]?.join).getD (syn.getD i []) else syn.getD i []
theorem mgS_length (syn : List (List Int)) (wr : List (Option (List Int))) (p : Nat → Bool) : (mgS syn wr p).length = syn.length := by simp [mgS]
theorem mgS_at {syn : List (List Int)} {wr : List (Option (List Int))} {p : Nat → Bool} {i : Nat} (h : i < (mgS syn wr p).length) : (mgS syn wr p)[i] = if p i then (wr[i]?.join).getD (syn.getD i []) else syn.getD i [] := by
  simp [mgS]
theorem mgS_none {syn : List (List Int)} {wr : List (Option (List Int))} {p : Nat → Bool} (h : ∀ i, i < syn.length → p i = false) : mgS syn wr p = syn := by
  refine List.ext_getElem (mgS_length _ _ _) (fun i h1 h2 => ?_)
  rw [mgS_at h1, h i h2]
  simp [List.getD, List.getElem?_eq_getElem h2]
theorem mgS_congr {syn : List (List Int)} {wr : List (Option (List Int))} {p q : Nat → Bool} (h : ∀ i, i < syn.length → p i = q i) : mgS syn wr p = mgS syn wr q := by
  refine List.ext_getElem (by rw [mgS_length, mgS_length]) (fun i h1 h2 => ?_)
  rw [mgS_at h1, mgS_at h2, h i (by rwa [mgS_length] at h1)]
theorem mgS_step {syn : List (List Int)} {wr : List (Option (List Int))} {p q : Nat → Bool} {k : Nat} {r : List Int} (hw : wr[k]? = some (some r)) (hq : q k = true) (h : ∀ i, i ≠ k → q i = p i) : mgS syn wr q = (mgS syn wr p).set k r := by
  refine List.ext_getElem (by rw [List.length_set, mgS_length, mgS_length]) (fun i h1 h2 => ?_)
  have h3 : i < (mgS syn wr p).length := by rwa [List.length_set] at h2
  rw [mgS_at h1]
  by_cases e : i = k
  · subst e
    rw [List.getElem_set_self, hq, hw]
    rfl
  · rw [List.getElem_set_ne (fun x => e x.symm), mgS_at h3, h i e]
theorem mgS_rows {syn : List (List Int)} {wr : List (Option (List Int))} {p : Nat → Bool} (hs : ∀ r ∈ syn, r.length = 64) (hw : ∀ (i : Nat) (r : List Int), wr[i]? = some (some r) → r.length = 64) : ∀ r ∈ mgS syn wr p, r.length = 64 := fun r hr => by
  obtain ⟨i, hi, rfl⟩ := List.mem_map.1 hr
  have hi := List.mem_range.1 hi
  have h0 : (syn.getD i []).length = 64 := by
    rw [List.getD, List.getElem?_eq_getElem hi]
    exact hs _ (List.getElem_mem hi)
  split
  · cases e : wr[i]? with
    | none => simpa using h0
    | some o => cases o with
      | none => simpa using h0
      | some r => exact hw i r e
  · exact h0
end Go.Proofs.YtmoebkdbnldbdaaGreatDoor
