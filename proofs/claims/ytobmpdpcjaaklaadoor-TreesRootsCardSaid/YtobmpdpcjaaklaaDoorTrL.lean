/-
  trees.levels: the levels of a tree, as an iterator.
-/
import Derived.Test.YtobmpdpcjaaklaaDoorTrG
import Derived.Test.YtobmpdpcjaaklaaDoorRt
namespace Go.Proofs.YtobmpdpcjaaklaaDoor
open Go.RowKit Go.Shelf

attribute [local go_sem] Oper.semAt_some

/-- A level that comes: its height, how many digests, where they lie. -/
structure Lev where
  k : Nat
  n : Nat
  g : Nat
  o : Nat
  c : Nat
def levE (x : Lev) : Array Value := #[.int .i64 (x.k : Int), .slice (some ⟨x.g, x.o, none⟩) x.n x.c]
/-- What a round must keep: the table of the rounds, the level's block. -/
def KpL (x : Lev) (A B : World) : Prop := A.heap.size ≤ B.heap.size ∧ (Rounds A → Rounds B) ∧ ∀ o, A.heap[x.g]? = some o → o.isCells = true → B.heap[x.g]? = some o
/-- What is known of a level when it comes. -/
def PhiL (N b : Nat) (ps : List (List Int)) (pre : List Lev) (p : World → Prop) (x : Lev) (V : World) : Prop :=
  x.k = pre.length ∧ x.k ≤ 5 ∧ x.n = 32 / 2 ^ x.k ∧ DigsAt V x.g x.o (levC ps x.k x.n) ∧ (x.g = b ∨ (N ≤ x.g ∧ ∃ U, p U ∧ U.grownBy V none ∧ U.heap.size ≤ x.g))
theorem PhiL.mono {N b : Nat} {ps : List (List Int)} (pre : List Lev) (p q : World → Prop) (x : Lev) (V : World) (h : ∀ U, p U → q U) (k : PhiL N b ps pre p x V) : PhiL N b ps pre q x V :=
  ⟨k.1, k.2.1, k.2.2.1, k.2.2.2.1, k.2.2.2.2.imp id (fun ⟨h1, U, h2, h3⟩ => ⟨h1, U, h U h2, h3⟩)⟩
theorem KpL.trans {x : Lev} {A B C : World} (h : KpL x A B) (k : KpL x B C) : KpL x A C := ⟨Nat.le_trans h.1 k.1, fun r => k.2.1 (h.2.1 r), fun o ho hc => k.2.2 o (h.2.2 o ho hc) hc⟩
theorem KpL.grown {x : Lev} {A B : World} {row : Option Nat} (hg : A.grownBy B row) (hr : row ≠ some 18) (h1 : row ≠ some x.g) : KpL x A B :=
  ⟨hg.size, fun r => r.grown hg (fun e => hr e.symm), fun o ho _ => (hg.block x.g (Array.getElem?_eq_some_iff.1 ho).1 (fun e => h1 e.symm)).trans ho⟩
theorem KpL.put {x : Lev} {W : World} {l : Nat} {o o' : Obj} (hl : 18 < l) (ho : W.heap[l]? = some o) (hc : o.isCells = false) : KpL x W (W.putObj l o') :=
  ⟨(grownBy_putObj' W l o').size, fun r => r.grown (grownBy_putObj' W l o') (fun e => by have := Option.some.inj e; omega), fun q hq hqc => ((grownBy_putObj' W l o').block x.g (Array.getElem?_eq_some_iff.1 hq).1 (fun e => by
    have := Option.some.inj e
    subst this
    rw [ho] at hq
    cases hq
    rw [hc] at hqc
    cases hqc)).trans hq⟩
theorem digs_block {w : World} {b off : Nat} {ps : List (List Int)} (hps : ∀ p ∈ ps, isDig p) (h : DigsAt w b off ps) (h0 : 0 < ps.length) : b < w.heap.size ∧ ∃ o, w.heap[b]? = some o ∧ o.isCells = true := by
  have h1 := h 0 h0
  have hl0 := (getD_dig hps 0).1
  have := h1 0 (.int .u8 ((ps.getD 0 zeroC).getD 0 0)) (by rw [Array.getElem?_toList]; exact arr_get (by omega))
  exact ⟨World.block_lt_of_cell? w _ this, cells_of_cell this⟩
theorem DigsAt.same {w w' : World} {b off : Nat} {ps : List (List Int)} (h : DigsAt w b off ps) (hb : w'.heap[b]? = w.heap[b]?) : DigsAt w' b off ps := fun j hj i v hv => (World.cell?_of_block hb).trans (h j hj i v hv)
theorem DigsAt.kp {w w' : World} {x : Lev} {off : Nat} {ps : List (List Int)} (hps : ∀ p ∈ ps, isDig p) (h : DigsAt w x.g off ps) (h0 : 0 < ps.length) (k : KpL x w w') : DigsAt w' x.g off ps := by
  obtain ⟨_, o, ho, hc⟩ := digs_block hps h h0
  exact h.same ((k.2.2 o ho hc).trans ho.symm)
theorem digs_abide {B b off : Nat} {ps : List (List Int)} {β : Type} : OwnFrom B (fun (_ : β) W => DigsAt W b off ps) := fun _ _ _ _ hs hg hr j hj i v hv => cell_kept (hs j hj i v hv) hg (fun r e => (hr r e).2)

theorem lev_half {k : Nat} (h : k < 5) : 32 / 2 ^ k = 2 * (32 / 2 ^ (k + 1)) ∧ 0 < 32 / 2 ^ (k + 1) ∧ 32 / 2 ^ (k + 1) ≤ 1000 := by
  have : k = 0 ∨ k = 1 ∨ k = 2 ∨ k = 3 ∨ k = 4 := by omega
  rcases this with rfl | rfl | rfl | rfl | rfl <;> decide

theorem levels_in (F : Fence) (m : Nat) (A : Option Addr) (n c : Nat) (w : World) (h : F = Fence.wide) : CallsIn F m Tryd.prog 19 #[.slice A n c] w fun e w' => e = .returned (.func (.func 25) #[] #[.pointer (some ⟨w.heap.size, 0, none⟩)]) ∧
      w' = w.alloc (.cells #[.slice A n c] 22) := by
  subst h
  refine callsIn_of_wp Tryd.func19 rfl trivial ?_ rfl
  simp only [Tryd.ntmps19, List.size_toArray, List.length_cons, List.length_nil, Nat.reduceAdd, Nat.reduceSub, Array.replicate_succ, Array.replicate_zero, List.push_toArray, List.append_toArray, List.nil_append, List.cons_append]
  gi_wp2
  go_ret
  exact ⟨rfl, rfl⟩

set_option maxRecDepth 100000 in
set_option maxHeartbeats 2000000 in
theorem levels1_in (m l B1 b off c N : Nat) (ps : List (List Int)) (hl : ps.length = 32) (hps : ∀ p ∈ ps, isDig p) (J Jx : List Lev → World → Prop) (hm : 2 ≤ m)
    (hJ : ∀ s A B, J s A → A.grownBy B none → J s B)
    (hY : ∀ pre x V, J pre V → PhiL N b ps pre (J pre) x V → YieldAt Fence.wide (m - 1) Tryd.prog l (levE x) V fun e V' =>
      (e = .returned (.bool true) ∧ J (pre ++ [x]) V' ∧ KpL x V V') ∨ (e = .returned (.bool false) ∧ Jx (pre ++ [x]) V'))
    (W : World) (hN : N ≤ W.heap.size) (hR : Rounds W) (h1 : Blk W B1 22 #[.slice (some ⟨b, off, none⟩) 32 c]) (hD : DigsAt W b off ps) (h0 : J [] W) :
    CallsIn Fence.wide m Tryd.prog 25 #[.func (.yield l) #[] #[], .pointer (some ⟨B1, 0, none⟩)] W fun e W' => (∃ v, e = .returned v) ∧
      ((∃ xs, xs.length = 6 ∧ J xs W') ∨ (∃ pre, True ∧ Jx pre W')) := by
  have c1 := h1.cell 0
  simp only [List.getElem?_toArray, List.getElem?_cons_zero] at c1
  have J0 := Lib.hid (And.intro h0 (And.intro hR (And.intro hD hN)))
  have HN := Lib.hid (And.intro hl hps)
  have HJ := Lib.hid hJ
  have HY := Lib.hid hY
  clear h0 hR hD hN hl hps hJ hY h1
  refine callsIn_of_wp Tryd.func25 rfl trivial ?_ rfl
  simp only [Tryd.ntmps25, List.size_toArray, List.length_cons, List.length_nil, Nat.reduceAdd, Nat.reduceSub, Array.replicate_succ, Array.replicate_zero, List.push_toArray, List.append_toArray, List.nil_append, List.cons_append]
  gi_wp2
  clear c1
  gi_loopw [3, 4] (fun lv i wr => ∃ (k n g o c : Nat) (pre : List Lev), i = .int .i64 (k : Int) ∧ lv = .slice (some ⟨g, o, none⟩) n c ∧ J pre wr ∧ Rounds wr ∧ N ≤ wr.heap.size ∧ PhiL N b ps pre (J pre) ⟨k, n, g, o, c⟩ wr) (fun _ i _ => (5 - intOf i).toNat)
  case atStart => exact ⟨0, 32, b, off, c, [], rfl, rfl, J0.out.1, J0.out.2.1, J0.out.2.2.2, rfl, Nat.zero_le _, show 32 = 32 / 2 ^ 0 from rfl, by rw [levC_zero HN.out.1]; exact J0.out.2.2.1, .inl rfl⟩
  case round =>
    obtain ⟨k, n, g, o, c2, pre, hi, hv, hJs, hRr, hNr, hph⟩ := hrel
    obtain ⟨I, hI⟩ : ∃ I : Int, I = (k : Int) := ⟨_, rfl⟩
    rw [← hI] at hi
    subst hi hv
    have hk5 : k ≤ 5 := hph.2.1
    have hpk : k = pre.length := hph.1
    have hn : n = 32 / 2 ^ k := hph.2.2.1
    have hD := hph.2.2.2.1
    have hyy := HY.out pre ⟨k, n, g, o, c2⟩ wr hJs hph
    simp only [levE] at hyy
    rw [← hI] at hyy
    obtain ⟨fn, tmps, assign, body, hy, hR⟩ := hyy
    have hbk := digs_block (levC_dig HN.out.2 k n) hD
    by_cases hlt : k < 5
    · have d1 : decide (I < 5) = true := by simp; omega
      have hI5 : 0 ≤ I ∧ I < 5 := by omega
      obtain ⟨m2, hm2⟩ : ∃ m2, m2 = 32 / 2 ^ (k + 1) := ⟨_, rfl⟩
      have hnm : n = 2 * m2 ∧ 0 < m2 ∧ m2 ≤ 1000 := by rw [hn, hm2]; exact lev_half hlt
      have HI := Lib.hid (And.intro hI (And.intro hlt (And.intro hm2 (And.intro hnm (And.intro hpk (And.intro hRr (And.intro hNr hD)))))))
      have HRR := Lib.hid hR
      clear hI hlt hJs hRr hNr hph hk5 hpk hn hD hbk hm2 hnm hR
      gi_wp2
      refine ⟨fun _ => by omega, ?_⟩
      refine HRR.out.mono ?_
      rintro e W3 (⟨rfl, hJ3, hk3⟩ | ⟨rfl, hJx3⟩)
      · obtain ⟨hI, hlt, hm2, ⟨hn1, hn2, hn3⟩, hpk, hRr, hNr, hD⟩ := HI.out
        have hD3 : DigsAt W3 g o (levC ps k n) := DigsAt.kp (x := ⟨k, n, g, o, c2⟩) (levC_dig HN.out.2 k n) hD (by rw [levC_length]; omega) hk3
        have HA := Lib.hid (above_is W3 (hk3.2.1 hRr) g o n c2 m2 (levC ps k n) (levC_length _ _ _) hn1 hn3 hn2 (levC_dig HN.out.2 k n) hD3)
        have HJ3 := Lib.hid (And.intro hJ3 (And.intro (hk3.2.1 hRr) (Nat.le_trans hNr hk3.1)))
        clear hI hlt hm2 hn1 hn2 hn3 hpk hRr hNr hD hJ3 hk3 hD3
        gi_wp2
        refine ⟨trivial, fun _ => by omega, ?_⟩
        refine (callsIn_wide.2 HA.out).mono ?_
        rintro e W4 ⟨g2, rfl, hg2, _, hD4, hk4⟩
        have HK4 := Lib.hid (And.intro hg2 (And.intro hD4 hk4))
        clear hg2 hD4 hk4
        gi_wp2
        go_roundw
        case rel =>
          obtain ⟨hI, hlt, hm2, ⟨hn1, hn2, hn3⟩, hpk, hRr, hNr, hD⟩ := HI.out
          obtain ⟨hg2, hD4, hk4⟩ := HK4.out
          rw [aboveC_lev hn1] at hD4
          exact ⟨k + 1, m2, g2, 0, m2, pre ++ [⟨k, n, g, o, c2⟩], by rw [hI]; rfl, rfl, HJ.out _ _ _ HJ3.out.1 hk4, HJ3.out.2.1.grown hk4 (by simp), Nat.le_trans HJ3.out.2.2 hk4.size, by simp [hpk], by show k + 1 ≤ 5; omega, hm2, hD4, .inr ⟨Nat.le_trans HJ3.out.2.2 hg2, W3, HJ3.out.1, hk4, hg2⟩⟩
        case measure => obtain ⟨hI, hlt, _⟩ := HI.out; simp only [intOf]; omega
      · gi_wp2
        go_end0
        exact ⟨⟨_, rfl⟩, .inr ⟨_, trivial, hJx3⟩⟩
    · obtain rfl : k = 5 := by omega
      have d1 : decide (I < 5) = false := by simp; omega
      have HI := Lib.hid hpk
      have HRR := Lib.hid hR
      clear hI hlt hJs hRr hNr hph hk5 hpk hn hD hbk hR
      gi_wp2
      refine ⟨fun _ => by omega, ?_⟩
      refine HRR.out.mono ?_
      rintro e W3 (⟨rfl, hJ3, hk3⟩ | ⟨rfl, hJx3⟩)
      · gi_wp2
        go_end0
        exact ⟨⟨_, rfl⟩, .inl ⟨_, by simp [← HI.out], hJ3⟩⟩
      · gi_wp2
        go_end0
        exact ⟨⟨_, rfl⟩, .inr ⟨_, trivial, hJx3⟩⟩
theorem levels_seq (m : Nat) (hm : 2 ≤ m) (B1 b off c : Nat) (ps : List (List Int)) (hl : ps.length = 32) (hps : ∀ p ∈ ps, isDig p) (w : World) (hR : Rounds w) (h1 : Blk w B1 22 #[.slice (some ⟨b, off, none⟩) 32 c]) (hD : DigsAt w b off ps) :
    SeqTold Fence.wide m Tryd.prog 25 #[.pointer (some ⟨B1, 0, none⟩)] levE KpL (PhiL w.heap.size b ps)
      (fun xs => xs.length = 6) (fun _ => True) w := fun l J Jx W hW hJ _ hY h0 =>
  levels1_in m l B1 b off c w.heap.size ps hl hps J Jx hm (fun s A B hA hg => hJ _ A B none hA hg (fun _ e => by cases e)) hY W hW.size
    (by obtain ⟨t, ht⟩ := hR; exact ⟨t, (hW.block _ (Blk.lt ht)).trans ht⟩) ((hW.block _ h1.lt).trans h1) (hD.same (hW.block _ (digs_block hps hD (by omega)).1)) h0
end Go.Proofs.YtobmpdpcjaaklaaDoor
