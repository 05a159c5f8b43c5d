/-
  Several texts in one: Pf2, Pf3, Pf4, DiB.
-/
import Derived.Test.YtmoebkdbnldbdaaGreatDoorM20pv
import Derived.Test.YtmoebkdbnldbdaaGreatDoorM20pr
import Derived.Great.BuildSlice
import Derived.OwnWalk
import Derived.Maps.AppendAt
import Derived.Test.YtmoebkdbnldbdaaGreatDoorM20pj
/-
  Proofs: a 46 of round 0; a timeout that comes from nowhere.
-/

namespace Go.Proofs.YtmoebkdbnldbdaaGreatDoor
open Go.RowKit

theorem tc_cells {w : World} {q o : Nat} {e r : Int} {vs : Value} (h : w.rangeAt q o (tcC e r vs).toList) : w.cell? ⟨q, o, none⟩ = some (.int .i64 e) ∧ w.cell? ⟨q, o + 1, none⟩ = some (.int .i64 r) ∧ w.cell? ⟨q, o + 2, none⟩ = some vs := ⟨h 0 _ rfl, h 1 _ rfl, h 2 _ rfl⟩
def toN (V : List Vd) (e : Int) (Bl Gl : List Int) (n2 : Nat) (te tr : Int) : Nat := if turnN V e e 2 ≠ 0 then turnN V e e 2 else if firstN V e e Bl Gl n2 ≠ 0 then firstN V e e Bl Gl n2 else turnN V e te tr
section
variable {B : Nat} {E : Nat → Addr} {e : Int} {A : Option Addr} {c : Nat} {V : List Vd} {Gl : List Int} {G : Array Value}
variable (w : World) (he : ErrEnv w B E) (hV : VdsAt w A V) (ok : keysOk V) (hl : V.length < 1000) (hG : G = arrV .u8 Gl) (hGl : Gl.length = 16) (gv : Array Value) (hgv : gv = grC e (.slice A V.length c) G)
include he hV ok hl hG hGl hgv
set_option maxRecDepth 100000 in
set_option maxHeartbeats 1000000 in
theorem qc0_is (qe : Int) (Bl : List Int) (hBl : Bl.length = 16) (Bv : Array Value) (hB : Bv = arrV .u8 Bl) (A2 : Option Addr) (n2 c2 : Nat) (qv : Array Value) (hqv : qv = qcC qe 0 Bv (.slice A2 n2 c2)) :
    Calls Tryz.prog 43 #[.agg gv, .agg qv] w fun e' w' => e' = .returned (evOf E (firstN V e qe Bl Gl n2)) ∧ w.grownBy w' none := by
  obtain ⟨q, hq⟩ : ∃ q, w.heap.size = q := ⟨_, rfl⟩
  obtain ⟨w1, hw1⟩ : ∃ w1, (w.alloc (.cells gv 26)).alloc (.cells qv 46) = w1 := ⟨_, rfl⟩
  have g1 : w.grownBy w1 none := by rw [← hw1]; exact grown_trans (World.grownBy_alloc _ _ none) (World.grownBy_alloc _ _ none)
  have b1 : Blk w1 q 26 gv := by rw [← hw1, ← hq]; exact (Blk.new _ _ _).alloc _
  have b2 : Blk w1 (q + 1) 46 qv := by
    have h := Blk.new (w.alloc (.cells gv 26)) 46 qv
    rw [World.size_alloc, hq, hw1] at h
    exact h
  have hs : gv.size = 18 := by rw [hgv]; exact grC_size (by rw [hG, arr_size, hGl])
  have hB16 : Bv.size = 16 := by rw [hB, arr_size, hBl]
  have hs2 : qv.size = 19 := by rw [hqv]; exact qcC_size hB16
  have HC := Lib.hid (first_isK21 w1 (he.grown g1 (fun _ e => by cases e)) (fun hne => by
    obtain ⟨b, off, eA, hc⟩ := hV hne
    exact ⟨b, off, eA, fun k hk => range_kept (hc k hk) g1⟩) ok hl hG hGl gv hgv qe 0 Bl hBl Bv hB A2 n2 c2 qv hqv)
  obtain ⟨_, x1, _, _⟩ := qc_cells hB16 (hqv ▸ b2)
  have HX := Lib.hid (And.intro g1 (And.intro b1 (And.intro hs (And.intro b2 hs2))))
  have HW := Lib.hid (And.intro hw1 hq)
  clear he hV ok hl hG hGl hgv g1 b1 b2 hs hs2 hw1 hq hBl hB hqv hB16
  go_enter Tryz.func43, Tryz.ntmps43
  go_upto_region 1 with (fail)
  rw [HW.out.1, HW.out.2]
  go_wp2_with (first
    | (refine wpList_load_row rfl 26 _ rfl q rfl 26 gv (0, 0) _ HX.out.2.1 Tryz.underlying26 rfl (by rw [HX.out.2.2.1]; exact info18) ?_)
    | (refine wpList_load_row rfl 46 _ rfl (q + 1) rfl 46 qv (0, 0) _ HX.out.2.2.2.1 Tryz.underlying46 rfl (by rw [HX.out.2.2.2.2]; exact info19) ?_))
  refine HC.out.mono ?_
  clear HC
  rintro e' w2 ⟨rfl, g2⟩
  obtain ⟨R, hR⟩ : ∃ R, evOf E (firstN V e qe Bl Gl n2) = R := ⟨_, rfl⟩
  rw [hR]
  have HG := Lib.hid (And.intro (grown_trans HX.out.1 g2) hR)
  clear g2 hR
  go_wp2_with fail
  go_ret
  exact ⟨by rw [HG.out.2]; rfl, HG.out.1⟩
end
end Go.Proofs.YtmoebkdbnldbdaaGreatDoor
/-
  Proofs: the chapter's example.
-/
namespace Go.Proofs.YtmoebkdbnldbdaaGreatDoor
open Go.RowKit

theorem arr16p (sd : Array Value) (h : sd.size = 16) : ∃ a0 a1 a2 a3 a4 a5 a6 a7 a8 a9 a10 a11 a12 a13 a14 a15 : Value, sd = #[a0, a1, a2, a3, a4, a5, a6, a7, a8, a9, a10, a11, a12, a13, a14, a15] := by
  obtain ⟨l⟩ := sd
  have h : l.length = 16 := h
  match l, h with
  | [a0, a1, a2, a3, a4, a5, a6, a7, a8, a9, a10, a11, a12, a13, a14, a15], _ => exact ⟨a0, a1, a2, a3, a4, a5, a6, a7, a8, a9, a10, a11, a12, a13, a14, a15, rfl⟩
def z16v : Array Value := #[.int .u8 0, .int .u8 0, .int .u8 0, .int .u8 0, .int .u8 0, .int .u8 0, .int .u8 0, .int .u8 0, .int .u8 0, .int .u8 0, .int .u8 0, .int .u8 0, .int .u8 0, .int .u8 0, .int .u8 0, .int .u8 0]
def gZ : Array Value := grC 0 (.slice none 0 0) z16v
def qZ : Array Value := qcC 0 0 z16v (.slice none 0 0)
def sZ : Array Value := #[.int .i64 0, .int .i64 0, .slice none 0 0, .slice none 0 0]
theorem gz_run (w : World) : Sem.run Tryz.prog (zeroValue 26) w = .ok (.agg gZ) w := zero_run w (by kernel_rfl)
theorem qz_run (w : World) : Sem.run Tryz.prog (zeroValue 46) w = .ok (.agg qZ) w := zero_run w (by kernel_rfl)
set_option maxRecDepth 100000 in
theorem gr_build (w : World) (e : Int) (A : Option Addr) (n c : Nat) (D : Array Value) (h : D.size = 16) : Sem.run Tryz.prog (Instr.build 26 #[(0, .int .i64 e), (1, .slice A n c), (2, .agg D)]) w = .ok (.agg (grC e (.slice A n c) D)) w := by
  obtain ⟨a0, a1, a2, a3, a4, a5, a6, a7, a8, a9, a10, a11, a12, a13, a14, a15, rfl⟩ := arr16p D h
  refine run_build w 26 _ _ ?_
  kernel_rfl
set_option maxRecDepth 100000 in
theorem qc_build (w : World) (e : Int) (D : Array Value) (h : D.size = 16) : Sem.run Tryz.prog (Instr.build 46 #[(0, .int .i64 e), (2, .agg D)]) w = .ok (.agg (qcC e 0 D (.slice none 0 0))) w := by
  obtain ⟨a0, a1, a2, a3, a4, a5, a6, a7, a8, a9, a10, a11, a12, a13, a14, a15, rfl⟩ := arr16p D h
  refine run_build w 46 _ _ ?_
  kernel_rfl
theorem qc_set (e r : Int) (D : Array Value) (h : D.size = 16) (u v : Value) : (qcC e r D u).setIfInBounds 18 v = qcC e r D v := by
  obtain ⟨a0, a1, a2, a3, a4, a5, a6, a7, a8, a9, a10, a11, a12, a13, a14, a15, rfl⟩ := arr16p D h
  kernel_rfl
theorem sg_row (w : World) : Sem.run Tryz.prog (Instr.buildSlice 44 1 #[(0, .agg sZ)]) w = .ok (.slice (some ⟨w.heap.size, 0, none⟩) 1 1) (w.alloc (.cells sZ 136)) := by kernel_rfl
theorem sg_build (w : World) : Sem.run Tryz.prog (Instr.build 136 #[]) w = .ok (.agg sZ) w := by kernel_rfl
theorem vd_row1 (w : World) : Sem.run Tryz.prog (Instr.buildSlice 22 1 #[(0, .agg (Vd.cells ⟨key4 1, 1⟩).toArray)]) w = .ok (.slice (some ⟨w.heap.size, 0, none⟩) 1 1) (w.alloc (.cells (([⟨key4 1, 1⟩] : List Vd).flatMap Vd.cells).toArray 41)) := by kernel_rfl
def v1 : List Vd := [⟨key4 1, 1⟩]
theorem v1_ok : keysOk v1 := by intro x hx; simp [v1] at hx; rcases hx with rfl; rfl
theorem v1_first : firstN v1 1 1 (key4 9) (key4 9) 0 = 0 := by
  have : rightS v1 = true := by kernel_rfl
  simp [firstN, beginN, this]
theorem v1_first1 : firstN v1 1 1 (key4 9) (key4 9) 1 = 12 := by
  have : rightS v1 = true := by kernel_rfl
  simp [firstN, beginN, this]
theorem arr_one_p (q : IntKind) (l : List Int) : ((arrV q l).all fun x => x.oneCell') = true := by simp [arrV, Value.oneCell']
theorem grown_set_p {w : World} (g i : Nat) (u : Value) : w.grownBy (w.setCell ⟨g, i, none⟩ u) (some g) :=
  ⟨rfl, rfl, rfl, by simp [World.setCell], fun k _ hne => Below.heap_setCell w ⟨g, i, none⟩ u k (fun e => hne (by rw [e]))⟩
theorem gr_one {e : Int} {A : Option Addr} {n c : Nat} {D : Array Value} (h : (D.all fun v => v.oneCell') = true) : ((grC e (.slice A n c) D).all fun v => v.oneCell') = true := by
  rw [Array.all_eq_true_iff_forall_mem] at h ⊢
  intro x hx
  simp only [grC, Array.mem_append, List.mem_toArray, List.mem_cons, List.not_mem_nil, or_false] at hx
  rcases hx with (rfl | rfl) | hx
  · rfl
  · rfl
  · exact h x hx
theorem qc_one {e r : Int} {A : Option Addr} {n c : Nat} {D : Array Value} (h : (D.all fun v => v.oneCell') = true) : ((qcC e r D (.slice A n c)).all fun v => v.oneCell') = true := by
  rw [Array.all_eq_true_iff_forall_mem] at h ⊢
  intro x hx
  simp only [qcC, Array.mem_append, List.mem_toArray, List.mem_cons, List.not_mem_nil, or_false] at hx
  rcases hx with (rfl | rfl) | hx | rfl
  · rfl
  · rfl
  · exact h x hx
  · rfl
end Go.Proofs.YtmoebkdbnldbdaaGreatDoor
/-
  ProofsGenesis, walked.
-/

namespace Go.Proofs.YtmoebkdbnldbdaaGreatDoor
open Go.RowKit

theorem ErrEnv.moreP {w : World} {B B' : Nat} {E : Nat → Addr} (h : ErrEnv w B E) (hB : B ≤ B') : ErrEnv w B' E := ⟨fun i hi => ⟨(h.var i hi).1, Nat.lt_of_lt_of_le (h.var i hi).2 hB⟩, fun i hi => ⟨Nat.lt_of_lt_of_le (h.row i hi).1 hB, (h.row i hi).2⟩, h.inj⟩
theorem turn_0 (V : List Vd) (e : Int) : turnN V e 0 0 ≠ 0 := by
  unfold turnN
  split
  · assumption
  · rw [if_pos (by omega)]; omega
theorem row_loadT (V : World) (g o : Nat) (ty : TypeId) (cs : Array Value) (d : TypeDesc) (h : V.rangeAt g o cs.toList) (hu : Tryz.prog.underlying ty = some d) (hd : d.isRow = true) (hi : (Tryz.prog.info? ty).map (·.size) = some cs.size) : Sem.run Tryz.prog (Instr.loadAt ty (.pointer (some ⟨g, o, none⟩))) V = .ok (.agg cs) V := by
  have := run_loadAt_mid (P := Tryz.prog) V g o ty cs.toList d h hu hd (by rw [Array.length_toList]; exact hi)
  rwa [Array.toArray_toList] at this
end Go.Proofs.YtmoebkdbnldbdaaGreatDoor
/-
  A slice literal of one element of several cells; append of one such element; what an owned row of such elements holds.
-/
namespace Go.Proofs.YtmoebkdbnldbdaaGreatDoor
open Go.RowKit

theorem fold_set : ∀ (vs : List Value) (cs : Array Value) (o : Nat), o + vs.length ≤ cs.size → ∀ j, ((vs.zipIdx 0).foldl (fun (cs : Array Value) (x : Value × Nat) => cs.setIfInBounds (o + x.2) x.1) cs)[j]? = if o ≤ j ∧ j < o + vs.length then vs[j - o]? else cs[j]? := by
  suffices h : ∀ (vs : List Value) (cs : Array Value) (o m : Nat), o + m + vs.length ≤ cs.size → ∀ j, ((vs.zipIdx m).foldl (fun (cs : Array Value) (x : Value × Nat) => cs.setIfInBounds (o + x.2) x.1) cs)[j]? = if o + m ≤ j ∧ j < o + m + vs.length then vs[j - (o + m)]? else cs[j]? from
    fun vs cs o h1 j => by simpa using h vs cs o 0 (by simpa using h1) j
  intro vs
  induction vs with
  | nil => intro cs o m _ j; simp; intro h1 h2; omega
  | cons v r ih =>
    intro cs o m hm j
    rw [List.length_cons] at hm
    rw [List.zipIdx_cons, List.foldl_cons, ih _ o (m + 1) (by rw [Array.size_setIfInBounds]; omega) j, List.length_cons]
    by_cases h1 : o + (m + 1) ≤ j ∧ j < o + (m + 1) + r.length
    · rw [if_pos h1, if_pos (by omega), show j - (o + m) = (j - (o + (m + 1))) + 1 by omega, List.getElem?_cons_succ]
    · rw [if_neg h1]
      by_cases h2 : j = o + m
      · subst h2
        rw [if_pos (by omega), Array.getElem?_setIfInBounds_self_of_lt (by omega), Nat.sub_self, List.getElem?_cons_zero]
      · rw [if_neg (by omega), Array.getElem?_setIfInBounds_ne (by omega)]
/-- One part that fills the whole. -/
theorem fill_one (es cs : Array Value) (h : es.size = cs.size) : Instr.fill (fun i => some (i * es.size, es.size)) cs [(0, .agg es)] = some es := by
  have hc : (Value.agg es).cells = es := rfl
  simp only [Instr.fill, hc, Nat.zero_mul]
  rw [if_neg (by simp [h])]
  congr 1
  apply Array.ext_getElem?
  intro j
  have := fold_set es.toList cs 0 (by simp [h]) j
  simp only [Nat.zero_add, Nat.sub_zero, Array.length_toList] at this
  rw [← Array.foldl_toList, Array.toList_zipIdx]
  simp only [Nat.zero_add]
  rw [this]
  by_cases hj : j < es.size
  · simp [hj]
  · rw [if_neg (by omega), Array.getElem?_eq_none (by omega), Array.getElem?_eq_none (by omega)]
theorem run_slice_one {P : Program} (w : World) (t e : TypeId) (es : Array Value) (hu : P.underlying t = some (.slice e)) (hs : (P.info? e).map (·.size) = some es.size) (hz : ((P.info? e).bind (·.zero)).map (·.cells.size) = some es.size) (h0 : 0 < es.size) (h1 : es.size ≤ 1000) :
    Sem.run P (Instr.buildSlice t 1 #[(0, .agg es)]) w = .ok (.slice (some ⟨w.heap.size, 0, none⟩) 1 1) (w.alloc (.cells es e)) := by
  cases hq : P.info? e with
  | none => simp [hq] at hs
  | some i =>
    have hi : i.size = es.size := by simpa [hq] using hs
    have : ∃ z, i.zero = some z ∧ z.cells.size = es.size := by simpa [hq] using hz
    obtain ⟨z, hzz, _⟩ := this
    refine run_buildSlice w t e 1 _ es i z hu hq hzz (by rw [hi]; omega) (by rw [hi]; omega) ?_
    rw [hi]
    exact fill_one es _ (by simp)

theorem wpList_push_row {P : Program} {w0 : World} {ops : Array Oper} {rest : List Oper} {o : Oper} {a : Act} {Q : Exit → Act → World → Prop} (hgd : o.guard = none) (s x : Operand) (t : TypeId)
    (ho : o.op = .call { callee := .builtin .append, args := #[s, x], argTypes := #[t, t] }) (base : Nat) (e e0 : TypeId) (i : TypeInfo) (z : Value) (size bytes : Nat) (ht : P.underlying t = some (.slice e)) (hi : P.info? e = some i) (hz : i.zero = some z) (hsize : i.size = size) (hby : i.bytes = bytes) (hzs : z.cells.size = size) (hsz : 0 < size)
    (v : Value) (n : Nat) (xs : List Value) (hs : a.eval s = v) (hown : w0.ownsRow base e size v n xs) (us : Array Value) (hu1 : us.all (·.oneCell') = true) (hus : us.size = size) (hx : a.eval x = .slice (some ⟨w0.heap.size, 0, none⟩) 1 1) (hn : n ≤ 1000000) (hb : bytes ≤ 1000) (hbase : base ≤ w0.heap.size)
    (h : ∀ v' w', w'.ownsRow base e size v' (n + 1) (xs ++ us.toList) → w0.grownBy w' v.ownBlock → (v'.ownBlock = v.ownBlock ∨ v'.ownBlock = some (w0.heap.size + 1)) → wpList P ops Q rest (a.put o.dst v') w') : wpList P ops Q (o :: rest) a (w0.alloc (.cells us e0)) := by
  refine wpList_append_own_at _ hgd s x t ho base e i z size bytes ht hi hz hsize hby hzs hsz v n xs hs (hown.alloc _) ⟨w0.heap.size, 0, none⟩ 1 1 us.toList hx (by rw [Array.length_toList, hus, Nat.one_mul]) (fun j y hy => ?_) (fun u hu => (Array.all_eq_true_iff_forall_mem.1 hu1) u (by simpa using hu)) (by simp only [maxLen]; omega) (by
    have := Nat.mul_le_mul (show n + 1 ≤ 1000001 by omega) hb
    omega) (by rw [World.size_alloc]; omega) (fun v' w' h1 h2 _ h4 => h v' w' h1 (grown_trans (World.grownBy_alloc w0 _ _) h2) (by rw [World.size_alloc] at h4; exact h4))
  rw [addr_zero_addK20, (Blk.new w0 e0 us).cell j, ← Array.getElem?_toList]
  exact hy

/-- As many rows of sixteen, one behind the other. -/
def rowV (f : Nat → Array Value) : Nat → List Value
  | 0 => []
  | n + 1 => rowV f n ++ (f n).toList
theorem rowV_length (f : Nat → Array Value) (h : ∀ k, (f k).size = 16) : ∀ n, (rowV f n).length = n * 16
  | 0 => rfl
  | n + 1 => by rw [rowV, List.length_append, rowV_length f h n, Array.length_toList, h]; omega
theorem rowV_get (f : Nat → Array Value) (h : ∀ k, (f k).size = 16) : ∀ n k i, k < n → i < 16 → (rowV f n)[k * 16 + i]? = (f k)[i]?
  | 0, _, _, hk, _ => absurd hk (by omega)
  | n + 1, k, i, hk, hi => by
    have hl := rowV_length f h n
    rw [rowV]
    by_cases e : k = n
    · subst e
      rw [List.getElem?_append_right (by omega), hl, show k * 16 + i - k * 16 = i by omega, Array.getElem?_toList]
    · rw [List.getElem?_append_left (by rw [hl]; omega)]
      exact rowV_get f h n k i (by omega) hi
/-- What an owned row of sixteens holds. -/
theorem own_rows {w : World} {base : Nat} {e : TypeId} {v : Value} {n : Nat} (f : Nat → Array Value) (hf : ∀ k, (f k).size = 16) (hn : 0 < n) (h : w.ownsRow base e 16 v n (rowV f n)) :
    ∃ g cap, v = .slice (some ⟨g, 0, none⟩) n cap ∧ n ≤ cap ∧ base ≤ g ∧ w.there g 0 (n * 16) ∧ ∀ k, k < n → w.rangeAt g (0 + k * 16) (f k).toList := by
  rcases h.2 with ⟨rfl, h0⟩ | ⟨g, cap, cur, rfl, hb, hg, hnc, _, hsz, ht⟩
  · omega
  · have hl := rowV_length f hf n
    have hcs : n * 16 ≤ cur.size := by
      have : (cur.toList.take (n * 16)).length = n * 16 := by rw [ht, hl]
      simp at this; omega
    refine ⟨g, cap, rfl, hnc, hb, fun j hj => ?_, fun k hk j u hu => ?_⟩
    · rw [Nat.zero_add]
      have hB : Blk w g e cur := hg
      refine ⟨by rw [hB.cell, Array.getElem?_eq_getElem (by omega)]; rfl, hB.frozen j⟩
    · have hj : j < 16 := by have := (List.getElem?_eq_some_iff.1 hu).1; rwa [Array.length_toList, hf] at this
      have hB : Blk w g e cur := hg
      have hlt : k * 16 + j < n * 16 := by omega
      rw [Nat.zero_add, hB.cell, ← Array.getElem?_toList]
      have e1 : (cur.toList.take (n * 16))[k * 16 + j]? = cur.toList[k * 16 + j]? := by rw [List.getElem?_take, if_pos hlt]
      rw [← e1, ht, rowV_get f hf n k j hk hj, ← Array.getElem?_toList]
      exact hu
theorem rowV_cells {w : World} {b : Nat} (f : Nat → Array Value) (hf : ∀ k, (f k).size = 16) : ∀ n, (∀ k, k < n → w.rangeAt b (0 + k * 16) (f k).toList) → ∀ j u, (rowV f n)[j]? = some u → w.cell? ⟨b, j, none⟩ = some u
  | 0, _, j, u, h => by simp [rowV] at h
  | n + 1, hR, j, u, h => by
    have hl := rowV_length f hf n
    rw [rowV] at h
    by_cases hj : j < n * 16
    · rw [List.getElem?_append_left (by omega)] at h
      exact rowV_cells f hf n (fun k hk => hR k (by omega)) j u h
    · rw [List.getElem?_append_right (by omega), hl] at h
      have := hR n (by omega) (j - n * 16) u h
      rwa [show 0 + n * 16 + (j - n * 16) = j by omega] at this
theorem rowV_one (f : Nat → Array Value) (h : ∀ k, ((f k).all fun v => v.oneCell') = true) : ∀ n, ∀ u ∈ rowV f n, u.oneCell' = true
  | 0, u, hu => by cases hu
  | n + 1, u, hu => by
    rcases List.mem_append.1 hu with h1 | h1
    · exact rowV_one f h n u h1
    · exact (Array.all_eq_true_iff_forall_mem.1 (h n)) u (by simpa using h1)
theorem wpList_bslice_run {P : Program} {ops : Array Oper} {rest : List Oper} {o : Oper} {a : Act} {w w' : World} {Q : Exit → Act → World → Prop} (hgd : o.guard = none) (t : TypeId) (len : Nat) (i : Nat) (x : Operand) (ho : o.op = .buildSlice t len #[(i, x)]) (u V : Value) (hx : a.eval x = u)
    (hr : Sem.run P (Instr.buildSlice t len #[(i, u)]) w = .ok V w') (h : wpList P ops Q rest (a.put o.dst V) w') : wpList P ops Q (o :: rest) a w :=
  wpList_plain hgd fun K hK => by
    have hm : (#[(i, x)] : Array (Nat × Operand)).map (fun (i, x) => (i, a.eval x)) = #[(i, u)] := by simp [hx]
    unfold Oper.wp execOp
    simp only [ho, Sem.run_bind, hm, hr, Result.andThen_ok]
    exact hK _ _ h
end Go.Proofs.YtmoebkdbnldbdaaGreatDoor
