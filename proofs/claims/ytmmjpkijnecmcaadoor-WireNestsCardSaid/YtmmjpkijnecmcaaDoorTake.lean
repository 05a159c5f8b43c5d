/-
  Take: its closure's loop, and it, at numbers of one byte.
-/
import Derived.Test.YtmmjpkijnecmcaaDoorRead3
import Derived.Test.YtmmjpkijnecmcaaDoorForth
import Derived.Test.YtmmjpkijnecmcaaDoorAttempt
import Derived.Test.YtmmjpkijnecmcaaDoorPut2
import Derived.Deep.RegionLaw
namespace Go.Proofs.YtmmjpkijnecmcaaDoor
open Go.RowKit

/-- So many numbers of one byte, up to the first error. -/
def pMany : Nat → Nat → List UInt8 → List Nat × Nat × List UInt8
  | 0, e, l => ([], e, l)
  | k + 1, e, l => if e ≠ 0 then ([], e, l) else ((pNum 1 e l).1 :: (pMany k (pNum 1 e l).2.1 (pNum 1 e l).2.2).1, (pMany k (pNum 1 e l).2.1 (pNum 1 e l).2.2).2)
theorem pMany_err (k e : Nat) (l : List UInt8) (h : e ≠ 0) : pMany k e l = ([], e, l) := by
  cases k with
  | zero => rfl
  | succ k => simp [pMany, h]
theorem pMany_succ (k : Nat) (l : List UInt8) (n1 e1 : Nat) (l1 : List UInt8) (h : pNum 1 0 l = (n1, e1, l1)) : pMany (k + 1) 0 l = (n1 :: (pMany k e1 l1).1, (pMany k e1 l1).2) := by simp [pMany, h]

def pTake (most : Int) (e : Nat) (l : List UInt8) : List Nat × Nat × List UInt8 :=
  let p := pMost 1 most e l
  let r := pMany p.1 p.2.1 p.2.2
  (if r.2.1 = 0 then r.1 else [], r.2)
theorem pNum_small {e : Nat} {l : List UInt8} : (pNum 1 e l).1 < 256 := by
  unfold pNum
  repeat' split
  all_goals try simp
  have := valOf_bound (l.take 1)
  have h2 : (l.take 1).length ≤ 1 := by simp; omega
  have h3 : 256 ^ (l.take 1).length ≤ 256 ^ 1 := Nat.pow_le_pow_right (by omega) h2
  omega
theorem Kept.grownSome {w w' : World} {g : Nat} (h : Kept (fun j => j = g) w w') : w.grownBy w' (some g) := ⟨h.os, h.tape, h.output, h.size, fun k hk hne => h.block k hk (fun e => hne (by rw [e]))⟩

section
variable {P : Program} (w : World)
theorem step_append_one {ops : Array Oper} {o : Oper} {a : Act} {K : Act → World → Prop} {Q : Exit → Act → World → Prop} {E : Prop} (hgd : o.guard = none) (s x : Operand) (t : TypeId)
    (ho : o.op = .call { callee := .builtin .append, args := #[s, x], argTypes := #[t, t] })
    (base : Nat) (e : TypeId) (i : TypeInfo) (z : Value) (bytes : Nat) (ht : P.underlying t = some (.slice e)) (hi : P.info? e = some i) (hz : i.zero = some z)
    (hsize : i.size = 1) (hby : i.bytes = bytes) (hzs : z.cells.size = 1)
    (v : Value) (n : Nat) (xs : List Value) (hs : a.eval s = v) (hown : w.ownsRow base e 1 v n xs)
    (ad : Addr) (c : Nat) (u : Value) (hx : a.eval x = .slice (some ad) 1 c) (hcell : w.cell? ad = some u) (hu : u.oneCell' = true) (h63 : n + 1 ≤ 1000000000) (hb : bytes ≤ 100) (hbase : base ≤ w.heap.size)
    (h : ∀ A' cap' w', w'.ownsRow base e 1 (.slice A' (n + 1) cap') (n + 1) (xs ++ [u]) → w.grownBy w' v.ownBlock → ((Value.slice A' (n + 1) cap').ownBlock = v.ownBlock ∨ (Value.slice A' (n + 1) cap').ownBlock = some w.heap.size) → K (a.put o.dst (.slice A' (n + 1) cap')) w') :
    if Region.wanted o (yielded ops a.tmps) = true then Oper.wp P o a w K Q else E := by
  have hw : Region.wanted o (yielded ops a.tmps) = true := by simp [Region.wanted, hgd]
  rw [if_pos hw]
  have hcells : ∀ j v, [u][j]? = some v → w.cell? (ad.add j) = some v := by
    intro j v hv
    rcases j with _ | j
    · simp at hv; subst hv; simpa [Addr.add] using hcell
    · simp at hv
  obtain ⟨v', w', hrun, h2, h3, _, h5⟩ := run_append_own_at (P := P) w base t o.type e i z 1 bytes ht hi hz hsize hby hzs (by omega) v n xs hown ad 1 c [u] (by simp) hcells (by intro v hv; simp at hv; subst hv; exact hu) (by unfold maxLen; omega)
    (Nat.le_trans (Nat.mul_le_mul h63 hb) (by omega)) hbase
  obtain ⟨A', cap', rfl⟩ := own_slice w' h2
  unfold Oper.wp execOp
  simp only [ho, resolve, invoke, builtin, Sem.run_bind, Sem.run_pure, Result.andThen_ok, List.map_toArray, List.map_cons, List.map_nil, hs, hx, hrun]
  exact h A' cap' w' h2 h3 h5
end

theorem info_u8 : (Tryd.prog.info? 5).map (fun i => (i.zero, i.size, i.bytes)) = some (some (.int .u8 0), 1, 1) := by kernel_rfl
def cells_u8 (xs : List Nat) : List Value := xs.map fun n : Nat => .int .u8 (n : Int)

/-- One more element: what stands behind the store. -/
theorem tstep_u8 {w wr w5 w6 : World} {g s lb k : Nat} {E : Nat → Addr} {e2 n1 : Nat} {l2 : List UInt8} {A A' : Option Addr} {c c' : Nat} {acc : List Nat}
    (K1 : Kept (fun k => k = g ∨ k = lb) w wr) (hb1 : Blk wr lb 27 #[.slice A k c]) (hA : ∀ ad, A = some ad → w.heap.size ≤ ad.block) (hs : s < w.heap.size) (hlb : lb < w.heap.size) (hgw : g < w.heap.size) (d4 : g ≠ lb) (d5 : s ≠ lb)
    (hr5 : RdIs w5 g s (evOf E e2) l2) (k5 : wr.drew.grownBy w5 (some g))
    (hown6 : w6.ownsRow 0 5 1 (.slice A' (k + 1) c') (k + 1) (cells_u8 acc ++ [.int .u8 (n1 : Int)]))
    (k6 : (w5.alloc (.cells #[.int .u8 (n1 : Int)] 5)).grownBy w6 (Value.slice A k c).ownBlock) (hat : (Value.slice A' (k + 1) c').ownBlock = (Value.slice A k c).ownBlock ∨ (Value.slice A' (k + 1) c').ownBlock = some (w5.alloc (.cells #[.int .u8 (n1 : Int)] 5)).heap.size) :
    RdIs (w6.setCell ⟨lb, 0, none⟩ (.slice A' (k + 1) c')) g s (evOf E e2) l2 ∧ Blk (w6.setCell ⟨lb, 0, none⟩ (.slice A' (k + 1) c')) lb 27 #[.slice A' (k + 1) c'] ∧
      (w6.setCell ⟨lb, 0, none⟩ (.slice A' (k + 1) c')).ownsRow 0 5 1 (.slice A' (k + 1) c') (k + 1) (cells_u8 (acc ++ [n1])) ∧ (∀ ad, A' = some ad → w.heap.size ≤ ad.block) ∧ Kept (fun k => k = g ∨ k = lb) w (w6.setCell ⟨lb, 0, none⟩ (.slice A' (k + 1) c')) := by
  have z1 := K1.size
  have z5 : wr.heap.size ≤ w5.heap.size := k5.size
  have hO : ∀ j, (Value.slice A k c).ownBlock = some j → w.heap.size ≤ j := fun j hj => by
    rcases A with _ | ad
    · simp [Value.ownBlock] at hj
    · have e : ad.block = j := by simpa [Value.ownBlock] using hj
      subst e; exact hA ad rfl
  have hA' : ∀ ad, A' = some ad → w.heap.size ≤ ad.block := fun ad e => by
    subst e
    rcases hat with h | h
    · exact hO ad.block (h.symm.trans rfl)
    · have e : ad.block = w5.heap.size + 1 := by simpa [Value.ownBlock] using h
      omega
  have KA : Kept (fun j => w.heap.size ≤ j) w5 w6 := ((Kept.refl _ w5).alloc (.cells #[.int .u8 (n1 : Int)] 5)).follow (Kept.of_grown (F := fun j => w.heap.size ≤ j) k6 hO) (fun _ _ h => h)
  have KS : Kept (fun j => j = lb) w6 (w6.setCell ⟨lb, 0, none⟩ (.slice A' (k + 1) c')) := (Kept.refl (fun j => j = lb) w6).set (p := ⟨lb, 0, none⟩) (.inl rfl) _
  have hb6 : Blk w6 lb 27 #[.slice A k c] := (hb1.drew.kept (Kept.of_grown (F := fun j => j = g) k5 fun j e => by injection e with e; exact e.symm) (fun e => d4 e.symm)).kept KA (by omega)
  refine ⟨(hr5.kept KA (by omega) (by omega)).kept KS d4 d5, by simpa using hb6.set 0 (.slice A' (k + 1) c'), ?_, hA', ?_⟩
  · have h := own_kept hown6 KS (fun j hj e => by
      rcases A' with _ | ad
      · simp [Value.ownBlock] at hj
      · have e2 : ad.block = j := by simpa [Value.ownBlock] using hj
        have := hA' ad rfl
        omega)
    simpa [cells_u8] using h
  · exact ((K1.drew.follow (Kept.of_grown (F := fun j => j = g ∨ j = lb) k5 fun j e => by injection e with e; exact .inl e.symm) (fun _ _ h => h)).follow KA (fun j hj h => by omega)).follow KS (fun _ _ h => .inr h)

set_option maxRecDepth 100000 in
set_option maxHeartbeats 1000000 in
theorem loop_u8 (w : World) (B g s : Nat) (E : Nat → Addr) (lb nb rb ob : Nat) (one : FuncId) (hE : ∀ (args : Array Value) (w : World), (callFunc one args).run Tryd.prog w = .ok (.enter one args) w)
    (hOne : ∀ (w1 : World) (e1 : Nat) (l1 : List UInt8) (n1 e2 : Nat) (l2 : List UInt8), pNum 1 e1 l1 = (n1, e2, l2) → RdIs w1 g s (evOf E e1) l1 → ErrVars [0, 1] w1 B E →
      Calls Tryd.prog one #[.pointer (some ⟨g, 0, none⟩)] w1 fun en w' => en = .returned (.int .u8 (n1 : Int)) ∧ RdIs w' g s (evOf E e2) l2 ∧ w1.grownBy w' (some g))
    (n : Nat) (hn : n ≤ 1000000) (e : Nat) (l : List UInt8) (out : List Nat) (e' : Nat) (l' : List UInt8) (hp : pMany n e l = (out, e', l'))
    (h0 : Blk w lb 27 #[.slice none 0 0]) (h1 : w.cell? ⟨nb, 0, none⟩ = some (.int .i64 (n : Int))) (h2 : w.cell? ⟨rb, 0, none⟩ = some (.pointer (some ⟨g, 0, none⟩))) (h3 : w.cell? ⟨ob, 0, none⟩ = some (.func (.func one) #[] #[]))
    (d1 : nb ≠ lb) (d2 : rb ≠ lb) (d3 : ob ≠ lb) (d4 : g ≠ lb) (d5 : s ≠ lb) (d6 : nb ≠ g) (d7 : rb ≠ g) (d8 : ob ≠ g) (hs : s < w.heap.size) (hgw : g < w.heap.size) (hB : B ≤ lb) (hg : B ≤ g)
    (hr : RdIs w g s (evOf E e) l) (he : ErrVars [0, 1] w B E) :
    Calls Tryd.prog 61 #[.pointer (some ⟨lb, 0, none⟩), .pointer (some ⟨nb, 0, none⟩), .pointer (some ⟨rb, 0, none⟩), .pointer (some ⟨ob, 0, none⟩)] w fun en w' => en = .returned (.tuple #[]) ∧
      (RdIs w' g s (evOf E e') l' ∧ (∃ A c, Blk w' lb 27 #[.slice A out.length c] ∧ w'.ownsRow 0 5 1 (.slice A out.length c) out.length (cells_u8 out) ∧ ∀ ad, A = some ad → w.heap.size ≤ ad.block) ∧ Kept (fun k => k = g ∨ k = lb) w w') := by
  obtain ⟨i0, hi, hz0, hz1, hz2⟩ := info_parts info_u8
  have HOne := Lib.hid hOne
  have Hp := Lib.hid hp
  have He := Lib.hid he
  have D : Hid ((nb ≠ lb ∧ rb ≠ lb ∧ ob ≠ lb ∧ g ≠ lb ∧ s ≠ lb) ∧ nb ≠ g ∧ rb ≠ g ∧ ob ≠ g) := ⟨⟨d1, d2, d3, d4, d5⟩, d6, d7, d8⟩
  have Hs := Lib.hid hs
  clear hOne hp he d1 d2 d3 d4 d5 d6 d7 d8 hs
  go_enter Tryd.func61, Tryd.ntmps61
  go_wp2_with fail
  go_loopw [] (fun wr => ∃ (k : Nat) (acc : List Nat) (e1 : Nat) (l1 : List UInt8) (A : Option Addr) (c : Nat), k ≤ n ∧ acc.length = k ∧ Hid (pMany n e l = (acc ++ (pMany (n - k) e1 l1).1, (pMany (n - k) e1 l1).2)) ∧ RdIs wr g s (evOf E e1) l1 ∧
      Blk wr lb 27 #[.slice A k c] ∧ wr.ownsRow 0 5 1 (.slice A k c) k (cells_u8 acc) ∧ (∀ ad, A = some ad → w.heap.size ≤ ad.block) ∧ Kept (fun k => k = g ∨ k = lb) w wr) (fun wr => n - (match wr.cell? ⟨lb, 0, none⟩ with | some (.slice _ m _) => m | _ => 0))
  case atStart => exact ⟨0, [], e, l, none, 0, Nat.zero_le _, rfl, rfl, hr, h0, (World.ownsRow_nil _ _ _ _ : w.ownsRow 0 5 1 (.slice none 0 0) 0 []), (fun _ e => by cases e), Kept.refl _ _⟩
  case round =>
    obtain ⟨k, acc, e1, l1, A, c, hk, ha, HI, hr1, hb1, hown, hA, K1⟩ := hrel
    have c0 : wr.cell? ⟨lb, 0, none⟩ = some (.slice A k c) := hb1.cell 0
    have c1 := K1.cell h1 (by rintro (h | h); exact D.out.2.1 h; exact D.out.1.1 h)
    have c2 := K1.cell h2 (by rintro (h | h); exact D.out.2.2.1 h; exact D.out.1.2.1 h)
    have c3 := K1.cell h3 (by rintro (h | h); exact D.out.2.2.2 h; exact D.out.1.2.2.1 h)
    have Ha := Lib.hid ha
    have HA := Lib.hid hA
    have hr1' := hr1
    obtain ⟨rA, rc, hrb, _, _, _⟩ := hr1'
    have c4 : wr.cell? ⟨g, 0, none⟩ = some (evOf E e1) := hrb.cell 0
    have he1 := He.out.kept K1 (by rintro j (h | h) <;> omega)
    have He1 := Lib.hid he1
    have stop : e1 ≠ 0 ∨ k = n → out = acc ∧ e' = e1 ∧ l' = l1 := fun h => by
      have hm : pMany (n - k) e1 l1 = ([], e1, l1) := by
        rcases h with h | h
        · exact pMany_err _ _ _ h
        · rw [h, Nat.sub_self]; rfl
      have h1 := HI.out
      rw [hm, Hp.out] at h1
      simp only [List.append_nil, Prod.mk.injEq] at h1
      exact h1
    have Hstop := Lib.hid stop
    clear hrb ha hA he1 stop
    by_cases hlt : k < n
    · have b1 : decide ((k : Int) < (n : Int)) = true := by simp; omega
      rcases e1 with _ | e1
      · have c4' : wr.cell? ⟨g, 0, none⟩ = some .nilIface := c4
        clear c4
        obtain ⟨n1, e2, l2, hq⟩ : ∃ n1 e2 l2, pNum 1 0 l1 = (n1, e2, l2) := ⟨_, _, _, rfl⟩
        have Hq := Lib.hid hq
        have Hown := Lib.hid hown
        have Hr1 := Lib.hid hr1
        have Hb1 := Lib.hid hb1
        clear hq hown hr1 hb1
        have own5 : ∀ w5, wr.drew.grownBy w5 (some g) → w5.ownsRow 0 5 1 (.slice A k c) k (cells_u8 acc) := fun w5 k5 => own_kept (own_kept Hown.out (Kept.refl (fun _ => False) wr).drew (fun _ _ h => h)) (Kept.of_grown (F := fun j => j = g) k5 fun j e => by injection e with e; exact e.symm) (fun j hj e => by
          subst e
          have := Hown.out.lt
          rcases A with _ | ad
          · simp [Value.ownBlock] at hj
          · have e2 : ad.block = j := by simpa [Value.ownBlock] using hj
            have := HA.out ad rfl
            omega)
        have Own5 := Lib.hid own5
        clear own5
        have blk5 : ∀ w5, wr.drew.grownBy w5 (some g) → Blk w5 lb 27 #[.slice A k c] := fun w5 k5 => Hb1.out.drew.kept (Kept.of_grown (F := fun j => j = g) k5 fun j e => by injection e with e; exact e.symm) (fun e => D.out.1.2.2.2.1 e.symm)
        have hlb : lb < w.heap.size := h0.lt
        have blk6 : ∀ w5 w6, wr.drew.grownBy w5 (some g) → (w5.alloc (.cells #[.int .u8 (n1 : Int)] 5)).grownBy w6 (Value.slice A k c).ownBlock → Blk w6 lb 27 #[.slice A k c] := fun w5 w6 k5 k6 =>
          ((blk5 w5 k5).alloc _).kept (Kept.of_grown (F := fun j => w.heap.size ≤ j) k6 fun j hj => by
            rcases A with _ | ad
            · simp [Value.ownBlock] at hj
            · have e2 : ad.block = j := by simpa [Value.ownBlock] using hj
              subst e2; exact HA.out ad rfl) (by omega)
        have Blk5 := Lib.hid blk5
        have Blk6 := Lib.hid blk6
        clear blk5 blk6
        go_wp2_with fail
        go_region_law (first
            | (refine step_append_one _ (by rfl) _ _ _ (by rfl) 0 5 i0 _ 1 Tryd.underlying27 hi hz0 hz1 hz2 rfl _ k _ (by rfl) ((Own5.out w5 k5).alloc _) ⟨w5.heap.size, 0, none⟩ 1 (.int .u8 (n1 : Int)) (by rfl) (Blk.cell (Blk.new _ _ _) 0) rfl (by omega) (by omega) (Nat.zero_le _) ?_; intro A' c' w6 hown6 k6 hat6; have q6 : w6.cell? ⟨lb, 0, none⟩ = some (.slice A k c) := (Blk6.out w5 w6 k5 k6).cell 0; have q7 : w6.frozen? ⟨lb, 0, none⟩ = false := (Blk6.out w5 w6 k5 k6).frozen 0)
            | (go_simp; refine (HOne.out _ 0 l1 n1 e2 l2 Hq.out Hr1.out.drew (He1.out.grown (grown_drew (World.grownBy.refl _ none)) (fun _ e => by cases e))).mono ?_; rintro en w5 ⟨rfl, hr5, k5⟩; have q4 : w5.cell? ⟨lb, 0, none⟩ = some (.slice A k c) := (Blk5.out w5 k5).cell 0; have q5 : (w5.alloc (.cells #[.int .u8 (n1 : Int)] 5)).cell? ⟨lb, 0, none⟩ = some (.slice A k c) := ((Blk5.out w5 k5).alloc _).cell 0))
        all_goals
          have fin := tstep_u8 (acc := acc) K1 Hb1.out HA.out Hs.out hlb hgw D.out.1.2.2.2.1 D.out.1.2.2.2.2 hr5 k5 hown6 k6 hat6
          have Fin := Lib.hid fin
          clear fin q6 q7 hr5 hown6 hat6 k6
          go_wp2_with fail
          go_roundw
          case rel => exact ⟨k + 1, acc ++ [n1], e2, l2, A', c', by omega, by simp [Ha.out], by
            have h1 := HI.out
            have hk1 : n - k = (n - (k + 1)) + 1 := by omega
            rw [hk1, pMany_succ _ _ _ _ _ Hq.out] at h1
            show pMany n e l = _
            rw [h1]
            simp, Fin.out.1, Fin.out.2.1, Fin.out.2.2.1, Fin.out.2.2.2.1, Fin.out.2.2.2.2⟩
          case measure =>
            have hc := Fin.out.2.1.cell 0
            simp at hc
            rw [hc, c0]
            simp
            omega
      · have c4' : wr.cell? ⟨g, 0, none⟩ = some (errV (E e1)) := c4
        clear c4
        obtain ⟨rfl, rfl, rfl⟩ := Hstop.out (.inl (by omega))
        go_wp2_with fail
        go_end0
        rw [← Ha.out] at hb1 hown
        exact ⟨rfl, hr1, ⟨A, c, hb1, hown, HA.out⟩, K1⟩
    · have b1 : decide ((k : Int) < (n : Int)) = false := by simp; omega
      obtain ⟨rfl, rfl, rfl⟩ := Hstop.out (.inr (by omega))
      go_wp2_with fail
      go_end0
      rw [← Ha.out] at hb1 hown
      exact ⟨rfl, hr1, ⟨A, c, hb1, hown, HA.out⟩, K1⟩

theorem enter_u8 (args : Array Value) (w : World) : (callFunc 61 args).run Tryd.prog w = .ok (.enter 61 args) w := by kernel_rfl

set_option maxRecDepth 100000 in
set_option maxHeartbeats 1000000 in
theorem take_u8 (w : World) (B g s : Nat) (E : Nat → Addr) (one : FuncId) (hE : ∀ (args : Array Value) (w : World), (callFunc one args).run Tryd.prog w = .ok (.enter one args) w)
    (hOne : ∀ (w1 : World) (e1 : Nat) (l1 : List UInt8) (n1 e2 : Nat) (l2 : List UInt8), pNum 1 e1 l1 = (n1, e2, l2) → RdIs w1 g s (evOf E e1) l1 → ErrVars [0, 1] w1 B E →
      Calls Tryd.prog one #[.pointer (some ⟨g, 0, none⟩)] w1 fun en w' => en = .returned (.int .u8 (n1 : Int)) ∧ RdIs w' g s (evOf E e2) l2 ∧ w1.grownBy w' (some g))
    (most : Int) (e : Nat) (l : List UInt8) (out : List Nat) (e' : Nat) (l' : List UInt8) (hp : pTake most e l = (out, e', l'))
    (hs : s < w.heap.size) (hg : B ≤ g) (hr : RdIs w g s (evOf E e) l) (he : ErrVars [0, 1] w B E) :
    Calls Tryd.prog 28 #[.pointer (some ⟨g, 0, none⟩), .int .i64 most, .func (.func one) #[] #[]] w fun en w' => ∃ A c, en = .returned (.slice A out.length c) ∧ w'.ownsRow 0 5 1 (.slice A out.length c) out.length (cells_u8 out) ∧ (∀ ad, A = some ad → w.heap.size ≤ ad.block) ∧
      RdIs w' g s (evOf E e') l' ∧ w.grownBy w' (some g) := by
  have hgw : g < w.heap.size := by obtain ⟨A, c, hb, _⟩ := hr; exact hb.lt
  have hmf : ∀ (fn : Fn) (first cap : Array Value) (w : World), (Instr.makeFunc fn first cap).run Tryd.prog w = .ok (.func fn first cap) w := fun _ _ _ _ => rfl
  obtain ⟨n1, e1, l1, hq⟩ : ∃ n1 e1 l1, pNum 1 e l = (n1, e1, l1) := ⟨_, _, _, rfl⟩
  have hsm : n1 < 256 := by have := pNum_small (e := e) (l := l); rw [hq] at this; exact this
  obtain ⟨e2, h2⟩ : ∃ e2, (if e1 = 0 ∧ most < (n1 : Int) then 1 else e1) = e2 := ⟨_, rfl⟩
  obtain ⟨o3, e3, l3, h3⟩ : ∃ o3 e3 l3, pMany n1 e2 l1 = (o3, e3, l3) := ⟨_, _, _, rfl⟩
  have hp' : (if e3 = 0 then o3 else []) = out ∧ e3 = e' ∧ l3 = l' := by
    unfold pTake pMost at hp
    rw [hq] at hp
    simp only [h2, h3, Prod.mk.injEq] at hp
    exact hp
  have Hq := Lib.hid hq
  have H2 := Lib.hid h2
  have H3 := Lib.hid h3
  have Hp := Lib.hid hp'
  have HOne := Lib.hid hOne
  have Hr := Lib.hid hr
  have He := Lib.hid he
  have k1 : Kept (fun _ => False) w ((w.alloc (.cells #[.pointer (some ⟨g, 0, none⟩)] 39)).alloc (.cells #[.func (.func one) #[] #[]] 52)) := ((Kept.refl _ w).alloc _).alloc _
  have z1 : ((w.alloc (.cells #[.pointer (some ⟨g, 0, none⟩)] 39)).alloc (.cells #[.func (.func one) #[] #[]] 52)).heap.size = w.heap.size + 2 := by simp
  have d1 : ((w.alloc (.cells #[.pointer (some ⟨g, 0, none⟩)] 39)).alloc (.cells #[.func (.func one) #[] #[]] 52)).cell? ⟨w.heap.size, 0, none⟩ = some (.pointer (some ⟨g, 0, none⟩)) := ((Blk.new w 39 #[.pointer (some ⟨g, 0, none⟩)]).alloc _).cell 0
  have d2 : ((w.alloc (.cells #[.pointer (some ⟨g, 0, none⟩)] 39)).alloc (.cells #[.func (.func one) #[] #[]] 52)).cell? ⟨w.heap.size + 1, 0, none⟩ = some (.func (.func one) #[] #[]) := by
    have h := (Blk.new (w.alloc (.cells #[.pointer (some ⟨g, 0, none⟩)] 39)) 52 #[.func (.func one) #[] #[]]).cell 0
    have z : (w.alloc (.cells #[.pointer (some ⟨g, 0, none⟩)] 39)).heap.size = w.heap.size + 1 := by simp
    rw [z] at h
    exact h
  clear hq h2 h3 hp' hp hOne hr he
  go_enter Tryd.func28, Tryd.ntmps28
  go_wp2_with fail
  generalize (w.alloc (.cells #[.pointer (some ⟨g, 0, none⟩)] 39)).alloc (.cells #[.func (.func one) #[] #[]] 52) = W1 at *
  have hr1 := Hr.out.kept k1 (fun h => h) (fun h => h)
  have he1 := He.out.kept k1 (fun _ h => h.elim)
  refine (rnum_is W1 B g s E e l 1 n1 e1 l1 Hq.out hr1 (he1.sub (by decide)) hg).mono ?_
  rintro en w2 ⟨rfl, hr2, k2⟩
  have lt2 := k2.size
  have K2 := (k1.mono (G := fun j => j = g) (fun _ _ h => h.elim)).follow (Kept.of_grown (F := fun j => j = g) k2 fun j e => by injection e with e; exact e.symm) (fun _ _ h => h)
  have kb := (Kept.refl (fun _ => False) w2).alloc (.cells #[.int .i64 (n1 : Int)] 3)
  have zb : (w2.alloc (.cells #[.int .i64 (n1 : Int)] 3)).heap.size = w2.heap.size + 1 := by simp
  have g1 := kb.cell (k2.cell d1 (by simp; omega)) (fun h => h)
  have g2 := kb.cell (k2.cell d2 (by simp; omega)) (fun h => h)
  have g3 : (w2.alloc (.cells #[.int .i64 (n1 : Int)] 3)).cell? ⟨w2.heap.size, 0, none⟩ = some (.int .i64 (n1 : Int)) := (Blk.new w2 3 #[.int .i64 (n1 : Int)]).cell 0
  have KB := K2.follow kb (fun _ _ h => h.elim)
  have Hrb := Lib.hid (hr2.kept kb (fun h => h) (fun h => h))
  have heb := (he1.grown k2 (fun j e => by injection e with e; omega)).kept kb (fun _ h => h.elim)
  have Heb := Lib.hid heb
  have v0 : (w2.alloc (.cells #[.int .i64 (n1 : Int)] 3)).cell? ⟨2, 0, none⟩ = some (errV (E 0)) := (heb.var 0 (by simp)).1
  clear hr1 he1 hr2 heb d1 d2
  by_cases hbig : most < (n1 : Int)
  · have t1 : decide (most < (n1 : Int)) = true := by simpa using hbig
    have H2' : Hid ((if e1 = 0 then 0 + 1 else e1) = e2) := by
      refine Lib.hid ?_
      rw [← H2.out]
      by_cases h0 : e1 = 0
      · rw [if_pos h0, if_pos ⟨h0, hbig⟩]
      · rw [if_neg h0, if_neg (fun h => h0 h.1)]
    clear hbig
    go_wp2_with fail
    generalize w2.alloc (.cells #[.int .i64 (n1 : Int)] 3) = wb at *
    have g1d : wb.drew.cell? ⟨w.heap.size, 0, none⟩ = some (.pointer (some ⟨g, 0, none⟩)) := g1
    go_region_with (go_at_call 32; refine (rfail_all _ g s E _ _ 0 e2 H2'.out Hrb.out.drew).mono ?_; rintro en w3 ⟨rfl, hr3, k3⟩)
    all_goals
      have he3 := (Heb.out.grown (grown_drew (World.grownBy.refl wb none)) (fun _ e => by cases e)).grown k3 (fun _ e => by injection e with e; omega)
      have He3 := Lib.hid he3
      have Hr3 := Lib.hid hr3
      have kw : wb.grownBy w3 (some g) := grown_trans (grown_drew (World.grownBy.refl wb (some g))) k3
      have ltw := kw.size
      have c1 := kw.cell g1 (by simp; omega)
      have c2 := kw.cell g2 (by simp; omega)
      have c3 := kw.cell g3 (by simp; omega)
      have K3 := KB.follow (Kept.of_grown (F := fun j => j = g) kw fun j e => by injection e with e; exact e.symm) (fun _ _ h => h)
      clear g1 g2 g3 g1d v0 hr3 he3
      have hb4 := Blk.new w3 27 #[.slice none 0 0]
      have z4 : (w3.alloc (.cells #[.slice none 0 0] 27)).heap.size = w3.heap.size + 1 := by simp
      have K4 := K3.alloc (.cells #[.slice none 0 0] 27)
      have h1' := ((Kept.refl (fun _ => False) w3).alloc (.cells #[.slice none 0 0] 27)).cell c1 (fun h => h)
      have h2' := ((Kept.refl (fun _ => False) w3).alloc (.cells #[.slice none 0 0] 27)).cell c2 (fun h => h)
      have h3' := ((Kept.refl (fun _ => False) w3).alloc (.cells #[.slice none 0 0] 27)).cell c3 (fun h => h)
      have hr4 := Hr3.out.kept ((Kept.refl (fun _ => False) w3).alloc (.cells #[.slice none 0 0] 27)) (fun h => h) (fun h => h)
      have he4 := He3.out.kept ((Kept.refl (fun _ => False) w3).alloc (.cells #[.slice none 0 0] 27)) (fun _ h => h.elim)
      have lt3 := K3.size
      go_wp2_with fail
      generalize w3.alloc (.cells #[.slice none 0 0] 27) = w4 at *
      have KF := (Kept.refl (fun _ => False) w4).alloc (.cells #[.pointer (some ⟨g, 0, none⟩)] 90)
      have zF : (w4.alloc (.cells #[.pointer (some ⟨g, 0, none⟩)] 90)).heap.size = w4.heap.size + 1 := by simp
      refine (attempt_ok ⟨g, 0, none⟩ 61 _ w4 _ enter_u8 (loop_u8 _ B g s E w3.heap.size w2.heap.size w.heap.size (w.heap.size + 1) one hE HOne.out n1 (by omega) e2 l1 o3 e3 l3 H3.out (hb4.kept KF (fun h => h)) (KF.cell h3' (fun h => h)) (KF.cell h1' (fun h => h)) (KF.cell h2' (fun h => h))
        (by omega) (by omega) (by omega) (by omega) (by omega) (by omega) (by omega) (by omega) (by omega) (by omega) (by omega) hg (hr4.kept KF (fun h => h) (fun h => h)) (he4.kept KF (fun _ h => h.elim)))).mono ?_
      rintro en w5 ⟨rfl, hr5, ⟨A, c, hb5, hown5, hA5⟩, K5⟩
      have K45 : Kept (fun j => j = g ∨ j = w3.heap.size) w4 w5 := (KF.mono (G := fun j => j = g ∨ j = w3.heap.size) (fun _ _ h => h.elim)).follow K5 (fun _ _ h => h)
      have b1 := K45.cell h1' (by simp; omega)
      have b2 : w5.cell? ⟨w3.heap.size, 0, none⟩ = some (.slice A o3.length c) := hb5.cell 0
      have hr5' := hr5
      obtain ⟨rA, rc, hrb, _, _, _⟩ := hr5'
      have b3 : w5.cell? ⟨g, 0, none⟩ = some (evOf E e3) := hrb.cell 0
      have HG : Hid (w.grownBy w5 (some g)) := (K4.follow K45 (by rintro j hj (h | h); exact h; omega)).grownSome
      have HA5 := Lib.hid hA5
      have Hown5 := Lib.hid hown5
      have Hr5 := Lib.hid hr5
      clear hA5 hown5 hr5 hrb hb5 hb4 h1' h2' h3' hr4 he4
      rcases e3 with _ | e3
      · have b3' : w5.cell? ⟨g, 0, none⟩ = some .nilIface := b3
        clear b3
        go_wp2_with fail
        go_ret
        obtain ⟨rfl, rfl, rfl⟩ := Hp.out
        exact ⟨A, c, rfl, Hown5.out, fun ad e => by have := HA5.out ad e; omega, Hr5.out, HG.out⟩
      · have b3' : w5.cell? ⟨g, 0, none⟩ = some (errV (E e3)) := b3
        clear b3
        go_wp2_with fail
        go_ret
        obtain ⟨rfl, rfl, rfl⟩ := Hp.out
        exact ⟨none, 0, rfl, World.ownsRow_nil _ _ _ _, (fun _ e => by cases e), Hr5.out, HG.out⟩
  · have t1 : decide (most < (n1 : Int)) = false := by simpa using hbig
    have H2' : e2 = e1 := by
      rw [← H2.out, if_neg (fun h => hbig h.2)]
    subst H2'
    clear hbig
    have hb4 := Blk.new (w2.alloc (.cells #[.int .i64 (n1 : Int)] 3)) 27 #[.slice none 0 0]
    rw [zb] at hb4
    have z4 : ((w2.alloc (.cells #[.int .i64 (n1 : Int)] 3)).alloc (.cells #[.slice none 0 0] 27)).heap.size = (w2.heap.size + 1) + 1 := by simp
    have K4 := KB.alloc (.cells #[.slice none 0 0] 27)
    have h1' := ((Kept.refl (fun _ => False) (w2.alloc (.cells #[.int .i64 (n1 : Int)] 3))).alloc (.cells #[.slice none 0 0] 27)).cell g1 (fun h => h)
    have h2' := ((Kept.refl (fun _ => False) (w2.alloc (.cells #[.int .i64 (n1 : Int)] 3))).alloc (.cells #[.slice none 0 0] 27)).cell g2 (fun h => h)
    have h3' := ((Kept.refl (fun _ => False) (w2.alloc (.cells #[.int .i64 (n1 : Int)] 3))).alloc (.cells #[.slice none 0 0] 27)).cell g3 (fun h => h)
    have hr4 := Hrb.out.kept ((Kept.refl (fun _ => False) (w2.alloc (.cells #[.int .i64 (n1 : Int)] 3))).alloc (.cells #[.slice none 0 0] 27)) (fun h => h) (fun h => h)
    have he4 := Heb.out.kept ((Kept.refl (fun _ => False) (w2.alloc (.cells #[.int .i64 (n1 : Int)] 3))).alloc (.cells #[.slice none 0 0] 27)) (fun _ h => h.elim)
    have lt3 := KB.size
    go_wp2_with fail
    generalize (w2.alloc (.cells #[.int .i64 (n1 : Int)] 3)).alloc (.cells #[.slice none 0 0] 27) = w4 at *
    have KF := (Kept.refl (fun _ => False) w4).alloc (.cells #[.pointer (some ⟨g, 0, none⟩)] 90)
    have zF : (w4.alloc (.cells #[.pointer (some ⟨g, 0, none⟩)] 90)).heap.size = w4.heap.size + 1 := by simp
    refine (attempt_ok ⟨g, 0, none⟩ 61 _ w4 _ enter_u8 (loop_u8 _ B g s E (w2.heap.size + 1) w2.heap.size w.heap.size (w.heap.size + 1) one hE HOne.out n1 (by omega) e2 l1 o3 e3 l3 H3.out (hb4.kept KF (fun h => h)) (KF.cell h3' (fun h => h)) (KF.cell h1' (fun h => h)) (KF.cell h2' (fun h => h))
      (by omega) (by omega) (by omega) (by omega) (by omega) (by omega) (by omega) (by omega) (by omega) (by omega) (by omega) hg (hr4.kept KF (fun h => h) (fun h => h)) (he4.kept KF (fun _ h => h.elim)))).mono ?_
    rintro en w5 ⟨rfl, hr5, ⟨A, c, hb5, hown5, hA5⟩, K5⟩
    have K45 : Kept (fun j => j = g ∨ j = (w2.heap.size + 1)) w4 w5 := (KF.mono (G := fun j => j = g ∨ j = (w2.heap.size + 1)) (fun _ _ h => h.elim)).follow K5 (fun _ _ h => h)
    have b1 := K45.cell h1' (by simp; omega)
    have b2 : w5.cell? ⟨(w2.heap.size + 1), 0, none⟩ = some (.slice A o3.length c) := hb5.cell 0
    have hr5' := hr5
    obtain ⟨rA, rc, hrb, _, _, _⟩ := hr5'
    have b3 : w5.cell? ⟨g, 0, none⟩ = some (evOf E e3) := hrb.cell 0
    have HG : Hid (w.grownBy w5 (some g)) := (K4.follow K45 (by rintro j hj (h | h); exact h; omega)).grownSome
    have HA5 := Lib.hid hA5
    have Hown5 := Lib.hid hown5
    have Hr5 := Lib.hid hr5
    clear hA5 hown5 hr5 hrb hb5 hb4 h1' h2' h3' hr4 he4
    rcases e3 with _ | e3
    · have b3' : w5.cell? ⟨g, 0, none⟩ = some .nilIface := b3
      clear b3
      go_wp2_with fail
      go_ret
      obtain ⟨rfl, rfl, rfl⟩ := Hp.out
      exact ⟨A, c, rfl, Hown5.out, fun ad e => by have := HA5.out ad e; omega, Hr5.out, HG.out⟩
    · have b3' : w5.cell? ⟨g, 0, none⟩ = some (errV (E e3)) := b3
      clear b3
      go_wp2_with fail
      go_ret
      obtain ⟨rfl, rfl, rfl⟩ := Hp.out
      exact ⟨none, 0, rfl, World.ownsRow_nil _ _ _ _, (fun _ e => by cases e), Hr5.out, HG.out⟩
end Go.Proofs.YtmmjpkijnecmcaaDoor
