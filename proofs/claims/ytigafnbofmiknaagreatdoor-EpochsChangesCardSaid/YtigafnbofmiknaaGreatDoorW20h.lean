/- Di, Sg, DiB, ChP, ChA -/
import Derived.Deep.MidRow
import Derived.Test.YtigafnbofmiknaaGreatDoorW20g
import Derived.RangeFuncBox
import Derived.Test.YtigafnbofmiknaaGreatDoorW20a
import Derived.Great.BuildSlice
import Derived.OwnWalk
import Derived.Maps.AppendAt
import Derived.Deep.RegionHeld3
namespace Go.Proofs.YtigafnbofmiknaaGreatDoor
set_option maxRecDepth 100000
set_option maxHeartbeats 10000000
open Go.RowKit
section
theorem zdo (w : World) (t : TypeId) (vs : Array Value) (ps : List (List Int)) (h : ∀ j, j < ps.length -> ∃ B m c, vs[j]? = some (.slice B m c) /\ (ps.getD j []).length = m /\ m <= c /\ BytesI (w.alloc (.cells vs t)) B (ps.getD j [])) :
    PartsI (w.alloc (.cells vs t)) (some ⟨w.heap.size, 0, none⟩) ps := fun j hj => by
 obtain ⟨B, m, c, h1, h2, h3, h4⟩ := h j hj
 exact ⟨_, B, m, c, rfl, by rw [zdf, Nat.zero_add, (Blk.new w t vs).cell]; exact h1, h2, h3, h4⟩
theorem zab {w : World} {g : Nat} {t : TypeId} {l : List Int} (h : Blk w g t (arrV .u8 l)) : BytesI w (some ⟨g, 0, none⟩) l := BytesI.blk h (fun j hj => by rw [Nat.zero_add]; exact ⟨hj, rfl⟩)
theorem info16 : (Tryz.prog.info? 24).map (·.size) = some 16 := by kernel_rfl
theorem z16run (w : World) : Sem.run Tryz.prog (zeroValue 24) w = .ok (.agg (arrV .u8 (List.replicate 16 0))) w := zrun w (by kernel_rfl)
theorem zbq (w : World) (b : Nat) : Sem.run Tryz.prog (Instr.sliceAt 24 (.pointer (some ⟨b, 0, none⟩)) none none none) w = .ok (.slice (some ⟨b, 0, none⟩) 16 16) w :=
 zce (P := Tryz.prog) (w := w) (b := b) (o := 0) (t := 24) Tryz.underlying24 (by kernel_rfl)
theorem zer (x : List Int) (h : isDig x) : ∃ s : ByteArray, xsOf s = x := zbd x h.2
theorem zde (n : Int) : ∃ s : ByteArray, xsOf s = [n % 256] := zbd [n % 256] (fun z hz => by simp at hz; omega)
theorem zdh (w : World) (t : TypeId) (ts : List ByteArray) : TextsI (w.alloc (.cells (ts.map Value.string).toArray t)) (some ⟨w.heap.size, 0, none⟩) ts := fun j hj => ⟨_, rfl, by
 rw [zdf, Nat.zero_add, (Blk.new w t _).cell]
 simp [List.getD, List.getElem?_eq_getElem hj]⟩
theorem zr {fn : Func} {s u : Tmp} {t : TypeId} (h : fn.results = #[.cell s t, .tmp u]) (tmps : Array Value) (P : Program) (w : World) (p : Addr) (v : Value)
    (hp : tmps.getD s undef = .pointer (some p)) (hl : (loadVar t p).run P w = .ok v w) : (results fn tmps).run P w = .ok (.tuple #[v, tmps.getD u undef]) w := by
 have hq : tmps[s]?.getD undef = .pointer (some p) := by simpa using hp
 simp [results, h, hq, asAddr, hl]
theorem vu {P : Program} {t : TypeId} {v : Value} (w : World) (h : (P.info? t).bind (·.zero) = some v) : Sem.run P (zeroValue t) w = .ok v w := by
 cases hq : P.info? t with
 | none => simp [hq] at h
 | some i =>
  have h1 : i.zero = some v := by simpa [hq] using h
  simp [zeroValue, typeInfo, hq, h1]
theorem eqDK20 (w : World) (l1 l2 : List Int) (h1 : l1.length = 16) (h2 : l2.length = 16) : Sem.run Tryz.prog (Op.equalIn 10000 24 (.agg (arrV .u8 l1)) (.agg (arrV .u8 l2))) w = .ok (decide (l1 = l2)) w :=
 eq_arr w 9998 Tryz.underlying24 (by kernel_rfl) Tryz.underlying5 (by kernel_rfl) (by kernel_rfl) l1 l2 h1 h2
theorem zd9 (g : Nat) (cs : Array Value) (hs : cs.size = 16) (V : World) (h : Blk V g 24 cs) : Sem.run Tryz.prog (Instr.loadAt 24 (.pointer (some ⟨g, 0, none⟩))) V = .ok (.agg cs) V := by
 have := run_loadAt_mid (P := Tryz.prog) V g 0 24 cs.toList _ (fun j v hv => by rw [Nat.zero_add, h.cell, <- Array.getElem?_toList]; exact hv) Tryz.underlying24 rfl (by rw [Array.length_toList, hs]; exact info16)
 rwa [Array.toArray_toList] at this
theorem yj (b j : Nat) : (⟨b, 0, none⟩ : Addr).add j = ⟨b, j, none⟩ := by
 have h : ∀ o, (⟨b, o, none⟩ : Addr).add j = ⟨b, o + j, none⟩ := fun o => by simp [Addr.add]
 have := h 0
 rwa [Nat.zero_add] at this
theorem vt {w w' : World} {base : Nat} {e : TypeId} {size n : Nat} {v : Value} {xs : List Value} (h : w.ownsRow base e size v n xs) (hg : w.grownBy w' none) : w'.ownsRow base e size v n xs :=
 h.kept hg (by cases v.ownBlock with
  | none => exact .inl rfl
  | some g => exact .inr (by simp))
def zeroC : List Int := List.replicate 16 0
def DigsAt (w : World) (b off : Nat) (ps : List (List Int)) : Prop := ∀ j, j < ps.length -> w.rangeAt b (off + j * 16) (arrV .u8 (ps.getD j zeroC)).toList
theorem zaq {w w' : World} {b o : Nat} {cs : List Value} (h : w.rangeAt b o cs) (hk : w.grownBy w' none) : w'.rangeAt b o cs := fun j v hv => hk.cell (h j v hv) (by simp)
theorem DigsAt.grown {w w' : World} {b off : Nat} {ps : List (List Int)} (h : DigsAt w b off ps) (hk : w.grownBy w' none) : DigsAt w' b off ps := fun j hj => zaq (h j hj) hk
theorem zcc : isDig zeroC := ⟨rfl, fun z hz => by simp [zeroC] at hz; omega⟩
theorem zbu {ps : List (List Int)} (h : ∀ p ∈ ps, isDig p) (j : Nat) : isDig (ps.getD j zeroC) := by
 by_cases hj : j < ps.length
 · rw [List.getD, List.getElem?_eq_getElem hj]; exact h _ (List.getElem_mem hj)
 · rw [List.getD, List.getElem?_eq_none (by omega)]; exact zcc
theorem zd2 {w w' : World} {row : Option Nat} {b o n : Nat} (h : w.there b o n) (hg : w.grownBy w' row) (hr : some b ≠ row) : w'.there b o n := fun j hj => by
 obtain ⟨h1, h2⟩ := h j hj
 obtain ⟨v, hv⟩ := Option.isSome_iff_exists.1 h1
 have hb := World.block_lt_of_cell? w _ hv
 refine ⟨?_, ?_⟩
 · rw [World.cell?_of_block (hg.block _ hb hr), hv]; rfl
 · rw [World.frozen?_of_block (hg.block _ hb hr)]; exact h2
theorem zda {w w' : World} {row : Option Nat} {b o : Nat} {cs : List Value} (h : w.rangeAt b o cs) (hg : w.grownBy w' row) (hr : some b ≠ row) : w'.rangeAt b o cs := fun j v hv => hg.cell (h j v hv) hr
theorem there_sub {w : World} {b o n o' n' : Nat} (h : w.there b o n) (h1 : o <= o') (h2 : o' + n' <= o + n) : w.there b o' n' := fun j hj => by
 have := h (o' - o + j) (by omega)
 rwa [show o + (o' - o + j) = o' + j by omega] at this
theorem ownFrom_grownr {β : Type} {B : Nat} {w0 : World} {r : Option Nat} (h : w0.heap.size <= B) : OwnFrom B (fun (_ : β) W => w0.grownBy W r) := fun s W W' row hs hg hr =>
 ⟨hg.os.trans hs.os, hg.tape.trans hs.tape, hg.output.trans hs.output, Nat.le_trans hs.size hg.size, fun k hk hne => (hg.block k (Nat.lt_of_lt_of_le hk hs.size) (by
  intro e
  have := (hr k e.symm).1
  omega)).trans (hs.block k hk hne)⟩
theorem ul {a b c : World} {r : Option Nat} {v : Value} {base size : Nat} {e : TypeId} {n : Nat} {xs : List Value} (h : a.grownBy b r) (k : b.grownBy c v.ownBlock) (hv : b.ownsRow base e size v n xs) (hB : a.heap.size <= base) : a.grownBy c r := by
 cases hg : v.ownBlock with
 | none => rw [hg] at k; exact za h (vq k _)
 | some g => rw [hg] at k; exact z8 h k (Nat.le_trans hB (hv.lt g hg).1)
theorem keeps_own {b c : World} {v : Value} {base size : Nat} {e : TypeId} {n : Nat} {xs : List Value} (k : b.grownBy c v.ownBlock) (hv : b.ownsRow base e size v n xs) : KeepsOthers b c :=
 KeepsOthers.of_grownBy k fun j o ej hj => by
  rcases hv.2 with ⟨rfl, _⟩ | ⟨g, cap, cur, rfl, _, hgb, _⟩
  · simp [Value.ownBlock] at ej
  · obtain rfl : g = j := by simpa [Value.ownBlock] using ej
    rw [hgb] at hj; cases hj; rfl
theorem ownFrom_axK20 {B base : Nat} (p : Nat -> Prop) (t : TypeId) (cs : Array Value) : OwnFrom B (fun (_ : Unit) W => ∃ g, base <= g /\ p g /\ Blk W g t cs) := fun _ _ _ _ hs hg hr => by
 obtain ⟨g, h1, h2, h3⟩ := hs
 exact ⟨g, h1, h2, (grownBy_keeps_cells hg (fun r e => (hr r e).2) h3 rfl).trans h3⟩
theorem zdn {w : World} {g : Nat} {t : TypeId} {cs : Array Value} (h : Blk w g t cs) : w.rangeAt g 0 cs.toList := fun j v hv => by
 rw [Nat.zero_add, h.cell, <- Array.getElem?_toList]; exact hv
theorem ub {P : Program} {ops : Array Oper} {rest : List Oper} {o : Oper} {a : Act} {w : World} {Q : Exit -> Act -> World -> Prop} (hw : Region.wanted o (yielded ops a.tmps) = true) (ty : TypeId) (x : Operand) (ho : o.op = .load ty x)
    (g : Nat) (hx : a.eval x = .pointer (some ⟨g, 0, none⟩)) (t : TypeId) (cs : Array Value) (fr : Nat × Nat) (d : TypeDesc) (hg : w.heap[g]? = some (.cells cs t fr))
    (hu : P.underlying ty = some d) (hd : (match d with | .struct _ | .array _ _ => true | _ => false) = true) (hi : (P.info? ty).map (·.size) = some cs.size)
    (h : wpList P ops Q rest (a.put o.dst (.agg cs)) w) : wpList P ops Q (o :: rest) a w :=
 wpList_step fun K hK => by
  rw [if_pos hw]
  unfold Oper.wp execOp
  simp only [ho, hx, Instr.loadAt, Instr.sureAddr, Sem.run_bind, Sem.run_pure, Result.andThen_ok, run_loadVar_row w g t ty cs fr d hg hu hd hi]
  exact hK _ _ h
theorem text_v (w : World) (d : List Int) (hd : d.length = 16) (s : ByteArray) (hs : xsOf s = d) (ds : Array Value) (h : ds = arrV .u8 d) :
    Calls Tryz.prog 59 #[.agg ds] w fun e w' => e = .returned (.string s) /\ w.grownBy w' none := by
 subst h
 exact zd3 w d hd s hs
end
section
def sigV (lf : Int) (c p : Value) : Array Value := #[.int .i64 lf, c, p]
def DigRow (w : World) (A : Option Addr) (n : Nat) (ps : List (List Int)) : Prop := ps.length = n /\ (∀ p ∈ ps, isDig p) /\ (n = 0 \/ ∃ b off, A = some ⟨b, off, none⟩ /\ DigsAt w b off ps)
theorem DigRow.grown {w w' : World} {A : Option Addr} {n : Nat} {ps : List (List Int)} (h : DigRow w A n ps) (hg : w.grownBy w' none) : DigRow w' A n ps := by
 obtain ⟨h1, h2, h0 | ⟨b, off, e, hD⟩⟩ := h
 · exact ⟨h1, h2, .inl h0⟩
 · exact ⟨h1, h2, .inr ⟨b, off, e, hD.grown hg⟩⟩
structure Sg where
 who : Int
 lf : Int
 A1 : Option Addr
 n1 : Nat
 c1 : Nat
 cs : List (List Int)
 A2 : Option Addr
 n2 : Nat
 c2 : Nat
 ps : List (List Int)
def Sg.sig (s : Sg) : Array Value := sigV s.lf (.slice s.A1 s.n1 s.c1) (.slice s.A2 s.n2 s.c2)
def Sg.cells (s : Sg) : Array Value := #[.int .i64 s.who] ++ s.sig
def SgsAt (w : World) (A : Option Addr) (L : List Sg) : Prop := L ≠ [] -> ∃ b off, A = some ⟨b, off, none⟩ /\ ∀ k (h : k < L.length), w.rangeAt b (off + k * 4) L[k].cells.toList
def SgsOk (w : World) (L : List Sg) : Prop := ∀ s ∈ L, DigRow w s.A1 s.n1 s.cs /\ DigRow w s.A2 s.n2 s.ps
theorem SgsAt.grown {w w' : World} {A : Option Addr} {L : List Sg} (h : SgsAt w A L) (hk : w.grownBy w' none) : SgsAt w' A L := fun hne => by
 obtain ⟨b, off, rfl, hc⟩ := h hne
 exact ⟨b, off, rfl, fun k hk' => ze (hc k hk') hk⟩
theorem SgsOk.grown {w w' : World} {L : List Sg} (h : SgsOk w L) (hk : w.grownBy w' none) : SgsOk w' L := fun s hs => ⟨(h s hs).1.grown hk, (h s hs).2.grown hk⟩
theorem range_block {w : World} {b o : Nat} {x : Value} {l : List Value} (h : w.rangeAt b o (x :: l)) : b < w.heap.size := World.block_lt_of_cell? w _ (h 0 x rfl)
theorem sg_one (s : Sg) : (s.cells.all fun v => v.oneCell') = true := by simp [Sg.cells, Sg.sig, sigV, Value.oneCell']
end
section
theorem fold_set : ∀ (vs : List Value) (cs : Array Value) (o : Nat), o + vs.length <= cs.size -> ∀ j, ((vs.zipIdx 0).foldl (fun (cs : Array Value) (x : Value × Nat) => cs.setIfInBounds (o + x.2) x.1) cs)[j]? = if o <= j /\ j < o + vs.length then vs[j - o]? else cs[j]? := by
 suffices h : ∀ (vs : List Value) (cs : Array Value) (o m : Nat), o + m + vs.length <= cs.size -> ∀ j, ((vs.zipIdx m).foldl (fun (cs : Array Value) (x : Value × Nat) => cs.setIfInBounds (o + x.2) x.1) cs)[j]? = if o + m <= j /\ j < o + m + vs.length then vs[j - (o + m)]? else cs[j]? from
  fun vs cs o h1 j => by simpa using h vs cs o 0 (by simpa using h1) j
 intro vs
 induction vs with
 | nil => intro cs o m _ j; simp; intro h1 h2; omega
 | cons v r ih =>
  intro cs o m hm j
  rw [List.length_cons] at hm
  rw [List.zipIdx_cons, List.foldl_cons, ih _ o (m + 1) (by rw [Array.size_setIfInBounds]; omega) j, List.length_cons]
  by_cases h1 : o + (m + 1) <= j /\ j < o + (m + 1) + r.length
  · rw [if_pos h1, if_pos (by omega), show j - (o + m) = (j - (o + (m + 1))) + 1 by omega, List.getElem?_cons_succ]
  · rw [if_neg h1]
    by_cases h2 : j = o + m
    · subst h2
      rw [if_pos (by omega), Array.getElem?_setIfInBounds_self_of_lt (by omega), Nat.sub_self, List.getElem?_cons_zero]
    · rw [if_neg (by omega), Array.getElem?_setIfInBounds_ne (by omega)]
theorem fill_one (es cs : Array Value) (h : es.size = cs.size) : Instr.fill (fun i => some (i * es.size, es.size)) cs [(0, .agg es)] = some es := by
 have hc : (Value.agg es).cells = es := rfl
 simp only [Instr.fill, hc, Nat.zero_mul]
 rw [if_neg (by simp [h])]
 congr 1
 apply Array.ext_getElem?
 intro j
 have := fold_set es.toList cs 0 (by simp [h]) j
 simp only [Nat.zero_add, Nat.sub_zero, Array.length_toList] at this
 rw [<- Array.foldl_toList, Array.toList_zipIdx]
 simp only [Nat.zero_add]
 rw [this]
 by_cases hj : j < es.size
 · simp [hj]
 · rw [if_neg (by omega), Array.getElem?_eq_none (by omega), Array.getElem?_eq_none (by omega)]
theorem za9 {P : Program} (w : World) (t e : TypeId) (es : Array Value) (hu : P.underlying t = some (.slice e)) (hs : (P.info? e).map (·.size) = some es.size) (hz : ((P.info? e).bind (·.zero)).map (·.cells.size) = some es.size) (h0 : 0 < es.size) (h1 : es.size <= 1000) :
    Sem.run P (Instr.buildSlice t 1 #[(0, .agg es)]) w = .ok (.slice (some ⟨w.heap.size, 0, none⟩) 1 1) (w.alloc (.cells es e)) := by
 cases hq : P.info? e with
 | none => simp [hq] at hs
 | some i =>
  have hi : i.size = es.size := by simpa [hq] using hs
  have : ∃ z, i.zero = some z /\ z.cells.size = es.size := by simpa [hq] using hz
  obtain ⟨z, hzz, _⟩ := this
  refine run_buildSlice w t e 1 _ es i z hu hq hzz (by rw [hi]; omega) (by rw [hi]; omega) ?_
  rw [hi]
  exact fill_one es _ (by simp)
theorem zak {P : Program} {w0 : World} {ops : Array Oper} {rest : List Oper} {o : Oper} {a : Act} {Q : Exit -> Act -> World -> Prop} (hgd : o.guard = none) (s x : Operand) (t : TypeId)
    (ho : o.op = .call { callee := .builtin .append, args := #[s, x], argTypes := #[t, t] }) (base : Nat) (e e0 : TypeId) (i : TypeInfo) (z : Value) (size bytes : Nat) (ht : P.underlying t = some (.slice e)) (hi : P.info? e = some i) (hz : i.zero = some z) (hsize : i.size = size) (hby : i.bytes = bytes) (hzs : z.cells.size = size) (hsz : 0 < size)
    (v : Value) (n : Nat) (xs : List Value) (hs : a.eval s = v) (hown : w0.ownsRow base e size v n xs) (us : Array Value) (hu1 : us.all (·.oneCell') = true) (hus : us.size = size) (hx : a.eval x = .slice (some ⟨w0.heap.size, 0, none⟩) 1 1) (hn : n <= 1000000) (hb : bytes <= 1000) (hbase : base <= w0.heap.size)
    (h : ∀ v' w', w'.ownsRow base e size v' (n + 1) (xs ++ us.toList) -> w0.grownBy w' v.ownBlock -> (v'.ownBlock = v.ownBlock \/ v'.ownBlock = some (w0.heap.size + 1)) -> wpList P ops Q rest (a.put o.dst v') w') : wpList P ops Q (o :: rest) a (w0.alloc (.cells us e0)) := by
 refine wpList_append_own_at _ hgd s x t ho base e i z size bytes ht hi hz hsize hby hzs hsz v n xs hs (hown.alloc _) ⟨w0.heap.size, 0, none⟩ 1 1 us.toList hx (by rw [Array.length_toList, hus, Nat.one_mul]) (fun j y hy => ?_) (fun u hu => (Array.all_eq_true_iff_forall_mem.1 hu1) u (by simpa using hu)) (by simp only [maxLen]; omega) (by
  have := Nat.mul_le_mul (show n + 1 <= 1000001 by omega) hb
  omega) (by rw [World.size_alloc]; omega) (fun v' w' h1 h2 _ h4 => h v' w' h1 (za (World.grownBy_alloc w0 _ _) h2) (by rw [World.size_alloc] at h4; exact h4))
 rw [yj, (Blk.new w0 e0 us).cell j, <- Array.getElem?_toList]
 exact hy
theorem uz {P : Program} {ops : Array Oper} {rest : List Oper} {o : Oper} {a : Act} {w w' : World} {Q : Exit -> Act -> World -> Prop} (hgd : o.guard = none) (t : TypeId) (len : Nat) (i : Nat) (x : Operand) (ho : o.op = .buildSlice t len #[(i, x)]) (u V : Value) (hx : a.eval x = u)
    (hr : Sem.run P (Instr.buildSlice t len #[(i, u)]) w = .ok V w') (h : wpList P ops Q rest (a.put o.dst V) w') : wpList P ops Q (o :: rest) a w :=
 wpList_plain hgd fun K hK => by
  have hm : (#[(i, x)] : Array (Nat × Operand)).map (fun (i, x) => (i, a.eval x)) = #[(i, u)] := by simp [hx]
  unfold Oper.wp execOp
  simp only [ho, Sem.run_bind, hm, hr, Result.andThen_ok]
  exact hK _ _ h
end
section
open Go.RowKit Go.Shelf
attribute [local go_sem] Oper.semAt_some
def vx (lo : Int) (k : Nat) : Int := lo + (k : Int)
theorem places1_in (m l B1 B2 : Nat) (Kp : World -> World -> Prop) (fr tq lo hi : Int) (n : Nat) (hlo : (¬ 0 <= fr /\ lo = 0) \/ (0 <= fr /\ lo = fr)) (hhi : (tq <= 3 /\ hi = tq) \/ (3 < tq /\ hi = 3)) (hn : n = (hi - lo).toNat) (J Jx : List Int -> World -> Prop) (hm : 1 <= m) (hKc : ∀ A B : World, Kp A B -> B.cell? ⟨B2, 0, none⟩ = A.cell? ⟨B2, 0, none⟩)
    (hY : ∀ pre x W, J pre W -> pre.length < n -> YieldAt Fence.wide (m - 1) Tryz.prog l #[.int .i64 x] W fun e W' =>
     (e = .returned (.bool true) /\ J (pre ++ [x]) W' /\ Kp W W') \/ (e = .returned (.bool false) /\ Jx (pre ++ [x]) W'))
    (W : World) (h1 : W.cell? ⟨B1, 0, none⟩ = some (.int .i64 fr)) (h2 : W.cell? ⟨B2, 0, none⟩ = some (.int .i64 tq)) (h0 : J [] W) :
    CallsIn Fence.wide m Tryz.prog 151 #[.func (.yield l) #[] #[], .pointer (some ⟨B1, 0, none⟩), .pointer (some ⟨B2, 0, none⟩)] W fun e W' => (∃ v, e = .returned v) /\
     ((∃ ys, ys = upto (vx lo) n /\ J ys W') \/ (∃ pre, (∃ k, k <= n /\ pre = upto (vx lo) k) /\ Jx pre W')) := by
 have HN := hQ_ hn
 have J0 := hQ_ h0
 have HH := hQ_ hhi
 clear hn h0 hhi
 rcases hlo with ⟨hf, rfl⟩ | ⟨hf, rfl⟩
 all_goals
  refine callsIn_of_wp Tryz.func151 rfl trivial ?_ rfl
  simp only [Tryz.ntmps151, List.size_toArray, List.length_cons, List.length_nil, Nat.reduceAdd, Nat.reduceSub, Array.replicate_succ, Array.replicate_zero, List.push_toArray, List.append_toArray, List.nil_append, List.cons_append]
  gi_wp2
 · gi_loopw [4] (fun i wr => ∃ k : Nat, k <= n /\ i = .int .i64 (0 + (k : Int)) /\ J (upto (vx 0) k) wr /\ wr.cell? ⟨B2, 0, none⟩ = some (.int .i64 tq)) (fun i _ => (4 - intOf i).toNat)
   case atStart => exact ⟨0, Nat.zero_le _, by simp, J0.out, h2⟩
   case round =>
    obtain ⟨k, hk, hi', hJs, h2'⟩ := hrel
    obtain ⟨I, hI⟩ : ∃ I : Int, I = 0 + (k : Int) := ⟨_, rfl⟩
    rw [<- hI] at hi'
    subst hi'
    clear h2
    by_cases h3 : tq <= 3
    · have hhi : hi = tq := by have := HH.out; omega
      have HHI := hQ_ hhi
      clear hhi
      by_cases hlt : k < n
      · have d1 : decide (I < tq) = true := by have := HN.out; have := HHI.out; simp; omega
        obtain ⟨fn, tmps, assign, body, hy, hR⟩ := hY _ (vx 0 k) wr hJs (by rw [za7]; exact hlt)
        dsimp only [vx] at hy
        rw [<- hI] at hy
        have hI3 : 0 <= I /\ I < 3 := by have := HN.out; have := HHI.out; omega
        have HI := hQ_ (aQ hI hlt)
        clear hI hlt hk hJs hY
        gi_wp2
        refine hR.mono ?_
        rintro e W3 (⟨rfl, hJ3, hk3⟩ | ⟨rfl, hJx3⟩)
        · gi_wp2
          go_roundw
          case rel => obtain ⟨hI, hlt⟩ := HI.out; exact ⟨k + 1, by omega, by rw [hI]; (first | (congr 1; omega) | congr 1), by rw [uq]; exact hJ3, (hKc _ _ hk3).trans h2'⟩
          case measure => simp only [intOf]; omega
        · gi_wp2
          refine bodyPost_ret (results_none rfl _ _ _) rfl ?_
          exact ⟨⟨_, rfl⟩, .inr ⟨_, ⟨k + 1, by have := HI.out; omega, (uq _ _).symm⟩, hJx3⟩⟩
      · have d1 : decide (I < tq) = false := by have := HN.out; have := HHI.out; simp; omega
        obtain rfl : k = n := by omega
        have HJ := hQ_ hJs
        clear hI hlt hk hJs hY
        gi_wp2
        go_end0
        first | exact ⟨⟨_, rfl⟩, .inl ⟨_, rfl, HJ.out⟩⟩ | exact ⟨⟨_, rfl⟩, .inl HJ.out⟩
    · have h4 : 3 < tq := by omega
      have hhi : hi = 3 := by have := HH.out; omega
      have HHI := hQ_ hhi
      clear hhi
      by_cases hlt : k < n
      · have d1 : decide (I < 3) = true := by have := HN.out; have := HHI.out; simp; omega
        obtain ⟨fn, tmps, assign, body, hy, hR⟩ := hY _ (vx 0 k) wr hJs (by rw [za7]; exact hlt)
        dsimp only [vx] at hy
        rw [<- hI] at hy
        have hI3 : 0 <= I /\ I < 3 := by have := HN.out; have := HHI.out; omega
        have HI := hQ_ (aQ hI hlt)
        clear hI hlt hk hJs hY
        gi_wp2
        refine hR.mono ?_
        rintro e W3 (⟨rfl, hJ3, hk3⟩ | ⟨rfl, hJx3⟩)
        · gi_wp2
          go_roundw
          case rel => obtain ⟨hI, hlt⟩ := HI.out; exact ⟨k + 1, by omega, by rw [hI]; (first | (congr 1; omega) | congr 1), by rw [uq]; exact hJ3, (hKc _ _ hk3).trans h2'⟩
          case measure => simp only [intOf]; omega
        · gi_wp2
          refine bodyPost_ret (results_none rfl _ _ _) rfl ?_
          exact ⟨⟨_, rfl⟩, .inr ⟨_, ⟨k + 1, by have := HI.out; omega, (uq _ _).symm⟩, hJx3⟩⟩
      · have d1 : decide (I < 3) = false := by have := HN.out; have := HHI.out; simp; omega
        obtain rfl : k = n := by omega
        have HJ := hQ_ hJs
        clear hI hlt hk hJs hY
        gi_wp2
        go_end0
        first | exact ⟨⟨_, rfl⟩, .inl ⟨_, rfl, HJ.out⟩⟩ | exact ⟨⟨_, rfl⟩, .inl HJ.out⟩
 · gi_loopw [4] (fun i wr => ∃ k : Nat, k <= n /\ i = .int .i64 (lo + (k : Int)) /\ J (upto (vx lo) k) wr /\ wr.cell? ⟨B2, 0, none⟩ = some (.int .i64 tq)) (fun i _ => (4 - intOf i).toNat)
   case atStart => exact ⟨0, Nat.zero_le _, by simp, J0.out, h2⟩
   case round =>
    obtain ⟨k, hk, hi', hJs, h2'⟩ := hrel
    obtain ⟨I, hI⟩ : ∃ I : Int, I = lo + (k : Int) := ⟨_, rfl⟩
    rw [<- hI] at hi'
    subst hi'
    clear h2
    by_cases h3 : tq <= 3
    · have hhi : hi = tq := by have := HH.out; omega
      have HHI := hQ_ hhi
      clear hhi
      by_cases hlt : k < n
      · have d1 : decide (I < tq) = true := by have := HN.out; have := HHI.out; simp; omega
        obtain ⟨fn, tmps, assign, body, hy, hR⟩ := hY _ (vx lo k) wr hJs (by rw [za7]; exact hlt)
        dsimp only [vx] at hy
        rw [<- hI] at hy
        have hI3 : 0 <= I /\ I < 3 := by have := HN.out; have := HHI.out; omega
        have HI := hQ_ (aQ hI hlt)
        clear hI hlt hk hJs hY
        gi_wp2
        refine hR.mono ?_
        rintro e W3 (⟨rfl, hJ3, hk3⟩ | ⟨rfl, hJx3⟩)
        · gi_wp2
          go_roundw
          case rel => obtain ⟨hI, hlt⟩ := HI.out; exact ⟨k + 1, by omega, by rw [hI]; (first | (congr 1; omega) | congr 1), by rw [uq]; exact hJ3, (hKc _ _ hk3).trans h2'⟩
          case measure => simp only [intOf]; omega
        · gi_wp2
          refine bodyPost_ret (results_none rfl _ _ _) rfl ?_
          exact ⟨⟨_, rfl⟩, .inr ⟨_, ⟨k + 1, by have := HI.out; omega, (uq _ _).symm⟩, hJx3⟩⟩
      · have d1 : decide (I < tq) = false := by have := HN.out; have := HHI.out; simp; omega
        obtain rfl : k = n := by omega
        have HJ := hQ_ hJs
        clear hI hlt hk hJs hY
        gi_wp2
        go_end0
        first | exact ⟨⟨_, rfl⟩, .inl ⟨_, rfl, HJ.out⟩⟩ | exact ⟨⟨_, rfl⟩, .inl HJ.out⟩
    · have h4 : 3 < tq := by omega
      have hhi : hi = 3 := by have := HH.out; omega
      have HHI := hQ_ hhi
      clear hhi
      by_cases hlt : k < n
      · have d1 : decide (I < 3) = true := by have := HN.out; have := HHI.out; simp; omega
        obtain ⟨fn, tmps, assign, body, hy, hR⟩ := hY _ (vx lo k) wr hJs (by rw [za7]; exact hlt)
        dsimp only [vx] at hy
        rw [<- hI] at hy
        have hI3 : 0 <= I /\ I < 3 := by have := HN.out; have := HHI.out; omega
        have HI := hQ_ (aQ hI hlt)
        clear hI hlt hk hJs hY
        gi_wp2
        refine hR.mono ?_
        rintro e W3 (⟨rfl, hJ3, hk3⟩ | ⟨rfl, hJx3⟩)
        · gi_wp2
          go_roundw
          case rel => obtain ⟨hI, hlt⟩ := HI.out; exact ⟨k + 1, by omega, by rw [hI]; (first | (congr 1; omega) | congr 1), by rw [uq]; exact hJ3, (hKc _ _ hk3).trans h2'⟩
          case measure => simp only [intOf]; omega
        · gi_wp2
          refine bodyPost_ret (results_none rfl _ _ _) rfl ?_
          exact ⟨⟨_, rfl⟩, .inr ⟨_, ⟨k + 1, by have := HI.out; omega, (uq _ _).symm⟩, hJx3⟩⟩
      · have d1 : decide (I < 3) = false := by have := HN.out; have := HHI.out; simp; omega
        obtain rfl : k = n := by omega
        have HJ := hQ_ hJs
        clear hI hlt hk hJs hY
        gi_wp2
        go_end0
        first | exact ⟨⟨_, rfl⟩, .inl ⟨_, rfl, HJ.out⟩⟩ | exact ⟨⟨_, rfl⟩, .inl HJ.out⟩
end
section
theorem zc6 (w : World) (n : Int) : Calls Tryz.prog 147 #[.int .i64 n] w fun e w' => e = .returned (.slice (some ⟨w.heap.size, 0, none⟩) 1 1) /\ w' = w.alloc (.cells #[.int .u8 (n % 256)] 5) := by
 go_enter Tryz.func147, Tryz.ntmps147
 go_wp2_with fail
 go_ret
 exact ⟨rfl, rfl⟩
end
end Go.Proofs.YtigafnbofmiknaaGreatDoor
