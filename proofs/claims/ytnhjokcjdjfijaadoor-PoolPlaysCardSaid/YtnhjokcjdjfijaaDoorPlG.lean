/-
  Pool: All, as an iterator.
-/
import Derived.Test.YtnhjokcjdjfijaaDoorPlF
import Derived.Test.YtnhjokcjdjfijaaDoorRt
namespace Go.Proofs.YtnhjokcjdjfijaaDoor
open Go.RowKit Go.Shelf

attribute [local go_sem] Oper.semAt_some

/-- A transaction that is told: between which blocks the copies lie; its slice, its bytes. -/
structure Tx where
  lo : Nat
  hi : Nat
  B : Option Addr
  d : Nat
  x : List UInt8
def txE (t : Tx) : Array Value := #[.slice t.B t.x.length t.d]
/-- Blocks of cells from lo up to hi stay. -/
def Still (lo hi : Nat) (A B : World) : Prop := A.heap.size ≤ B.heap.size ∧ ∀ b o, lo ≤ b → b < hi → A.heap[b]? = some o → o.isCells = true → B.heap[b]? = some o
def KpT (t : Tx) : World → World → Prop := Still t.lo t.hi
/-- What is known of one when it comes. -/
def PhiT (N : Nat) (L : List (List UInt8)) (pre : List Tx) (_ : World → Prop) (t : Tx) (V : World) : Prop :=
  L[pre.length]? = some t.x ∧ BytesAt V t.B t.x ∧ (∀ ad, t.B = some ad → t.x ≠ [] → t.lo ≤ ad.block ∧ ad.block < t.hi) ∧ t.hi ≤ V.heap.size ∧ N ≤ t.lo ∧ (∀ y ∈ pre, y.lo = t.lo ∧ y.hi = t.hi) ∧ ∀ ad, t.B = some ad → t.x ≠ [] → Soft V ad.block
theorem PhiT.mono {N : Nat} {L : List (List UInt8)} (pre : List Tx) (p q : World → Prop) (t : Tx) (V : World) (_ : ∀ U, p U → q U) (k : PhiT N L pre p t V) : PhiT N L pre q t V := k
section
variable {A B C : World} {lo hi : Nat}
theorem Still.refl (lo hi : Nat) (A : World) : Still lo hi A A := ⟨Nat.le_refl _, fun _ _ _ _ h _ => h⟩
theorem Still.trans (h : Still lo hi A B) (k : Still lo hi B C) : Still lo hi A C := ⟨Nat.le_trans h.1 k.1, fun b o h1 h2 h3 h4 => k.2 b o h1 h2 (h.2 b o h1 h2 h3 h4) h4⟩
theorem Still.of_kept {F : Nat → Prop} (h : Kept F A B) (hF : ∀ k, F k → ¬ (lo ≤ k ∧ k < hi)) : Still lo hi A B :=
  ⟨h.size, fun b o h1 h2 h3 _ => (h.block b (Array.getElem?_eq_some_iff.1 h3).1 (fun hf => hF b hf ⟨h1, h2⟩)).trans h3⟩
theorem Still.put {l : Nat} {o o' : Obj} (ho : A.heap[l]? = some o) (hc : o.isCells = false) : Still lo hi A (A.putObj l o') :=
  ⟨(grownBy_putObj' A l o').size, fun b q _ _ hq hqc => ((grownBy_putObj' A l o').block b (Array.getElem?_eq_some_iff.1 hq).1 (fun e => by
    have := Option.some.inj e
    subst this
    rw [ho] at hq
    cases hq
    rw [hc] at hqc
    cases hqc)).trans hq⟩
theorem BytesAt.still {D : Option Addr} {x : List UInt8} (h : BytesAt A D x) (hb : ∀ ad, D = some ad → x ≠ [] → lo ≤ ad.block ∧ ad.block < hi) (hs : Still lo hi A B) : BytesAt B D x := fun hne => by
  obtain ⟨ad, e, hc⟩ := h hne
  refine ⟨ad, e, fun j hj => ?_⟩
  have h1 := hc j hj
  obtain ⟨o, ho, hoc⟩ := cells_of_cell h1
  obtain ⟨b1, b2⟩ := hb ad e hne
  rw [block_add] at ho
  exact (World.cell?_of_block (by rw [block_add]; exact (hs.2 ad.block o b1 b2 ho hoc).trans ho.symm)).trans h1
theorem Soft.still {b : Nat} (h : Soft A b) (h1 : lo ≤ b) (h2 : b < hi) (hs : Still lo hi A B) : Soft B b := by
  obtain ⟨cs, h⟩ := h
  exact ⟨cs, hs.2 b _ h1 h2 h rfl⟩
theorem RowS.still {S : Nat → Prop} {D : Option Addr} {n c : Nat} {zs : List (Value × List UInt8)} (h : RowS A S D n c zs) (hS : ∀ k, S k → lo ≤ k ∧ k < hi) (hs : Still lo hi A B) : RowS B S D n c zs := by
  obtain ⟨h1, h2, h3⟩ := h
  refine ⟨⟨h1.1, ?_⟩, h2, fun z hz => ?_⟩
  · rcases h1.2 with h | ⟨g, cap, cur, hv, hb, hh, r⟩
    · exact .inl h
    · injection hv with e1 e2 e3
      obtain ⟨b1, b2⟩ := hS _ (h2 _ e1)
      exact .inr ⟨g, cap, cur, by rw [e1, e3], hb, hs.2 g _ b1 b2 hh rfl, r⟩
  · obtain ⟨B0, cB, q1, q2, q3⟩ := h3 z hz
    exact ⟨B0, cB, q1, q2.still (fun ad e hne => hS _ (q3 ad e hne).1) hs, fun ad e hne => ⟨(q3 ad e hne).1, (q3 ad e hne).2.1, (q3 ad e hne).2.2.still (hS _ (q3 ad e hne).1).1 (hS _ (q3 ad e hne).1).2 hs⟩⟩
end

theorem all_in (F : Fence) (m p : Nat) (w : World) (h : F = Fence.wide) : CallsIn F m Tryd.prog 20 #[.pointer (some ⟨p, 0, none⟩)] w fun e w' => e = .returned (.func (.func 30) #[] #[.pointer (some ⟨w.heap.size, 0, none⟩)]) ∧
      w' = w.alloc (.cells #[.pointer (some ⟨p, 0, none⟩)] 24) := by
  subst h
  refine callsIn_of_wp Tryd.func20 rfl trivial ?_ rfl
  simp only [Tryd.ntmps20, List.size_toArray, List.length_cons, List.length_nil, Nat.reduceAdd, Nat.reduceSub, Array.replicate_succ, Array.replicate_zero, List.push_toArray, List.append_toArray, List.nil_append, List.cons_append]
  gi_wp2
  go_ret
  exact ⟨rfl, rfl⟩

set_option maxRecDepth 100000 in
set_option maxHeartbeats 2000000 in
theorem all1_in (m l bx p N : Nat) (S : Nat → Prop) (L : List (List UInt8)) (hm : 2 ≤ m) (hL : L.length ≤ 1000) (hsm : ∀ y ∈ L, y.length ≤ 100000) (J Jx : List Tx → World → Prop)
    (hJ : ∀ s A B, J s A → A.grownBy B none → J s B)
    (hY : ∀ pre t V, J pre V → PhiT N L pre (J pre) t V → YieldAt Fence.wide (m - 1) Tryd.prog l (txE t) V fun e V' =>
      (e = .returned (.bool true) ∧ J (pre ++ [t]) V' ∧ KpT t V V') ∨ (e = .returned (.bool false) ∧ Jx (pre ++ [t]) V'))
    (W : World) (hN : N ≤ W.heap.size) (hP : PoolIs W S p L) (hb : Blk W bx 24 #[.pointer (some ⟨p, 0, none⟩)]) (h0 : J [] W) :
    CallsIn Fence.wide m Tryd.prog 30 #[.func (.yield l) #[] #[], .pointer (some ⟨bx, 0, none⟩)] W fun e W' => (∃ v, e = .returned v) ∧
      ((∃ xs, xs.map (·.x) = L ∧ J xs W') ∨ (∃ pre, True ∧ Jx pre W')) := by
  obtain ⟨hSp, A, n, c, zs0, hbp, hrow0, hs0⟩ := hP
  have hl : L.length = n := by rw [← hs0, List.length_map, hrow0.length]
  have c1 := hb.cell 0
  have c2 := hbp.cell 0
  simp only [List.getElem?_toArray, List.getElem?_cons_zero] at c1 c2
  have hls := hrow0.ls
  rw [hs0] at hls
  have HB := Lib.hid (pbytes_is W A n c L hl (by omega) hsm hls)
  have H0 := Lib.hid (And.intro h0 (And.intro hN hl))
  have HJ := Lib.hid hJ
  have HY := Lib.hid hY
  have hn1 : n ≤ 1000 := by omega
  clear h0 hN hl hJ hY hb hbp hrow0 hs0 hls hsm hSp
  refine callsIn_of_wp Tryd.func30 rfl trivial ?_ rfl
  simp only [Tryd.ntmps30, List.size_toArray, List.length_cons, List.length_nil, Nat.reduceAdd, Nat.reduceSub, Array.replicate_succ, Array.replicate_zero, List.push_toArray, List.append_toArray, List.nil_append, List.cons_append]
  gi_wp2
  refine ⟨trivial, fun _ => by omega, ?_⟩
  refine (callsIn_wide.2 HB.out).mono ?_
  rintro e W1 ⟨A', c', rfl, ⟨zs, hs, hrow⟩, k1⟩
  obtain ⟨lo, hlo⟩ : ∃ lo, lo = W.heap.size := ⟨_, rfl⟩
  obtain ⟨hi, hhi⟩ : ∃ hi, hi = W1.heap.size := ⟨_, rfl⟩
  have hst : J [] W1 ∧ RowS W1 (fun b => lo ≤ b ∧ b < hi) A' n c' zs ∧ zs.map (·.2) = L ∧ N ≤ lo ∧ hi ≤ W1.heap.size :=
    ⟨HJ.out _ _ _ H0.out.1 k1, hrow.mono (fun k hk h => ⟨by rw [hlo]; exact h, by rw [hhi]; exact hk⟩), hs, by rw [hlo]; exact H0.out.2.1, by rw [hhi]; exact Nat.le_refl _⟩
  have HS := Lib.hid hst
  clear hst hs hrow k1 hlo hhi c1 c2
  gi_wp2
  gi_loopw [11] (fun i wr => ∃ (k : Nat) (pre : List Tx), k ≤ n ∧ i = .int .i64 (k : Int) ∧ pre.length = k ∧ pre.map (·.x) = L.take k ∧ (∀ y ∈ pre, y.lo = lo ∧ y.hi = hi) ∧ J pre wr ∧ RowS wr (fun b => lo ≤ b ∧ b < hi) A' n c' zs ∧ hi ≤ wr.heap.size) (fun i _ => (n - (intOf i).toNat))
  case atStart => exact ⟨0, [], Nat.zero_le _, rfl, rfl, by simp, (fun y hy => by cases hy), HS.out.1, HS.out.2.1, HS.out.2.2.2.2⟩
  case round =>
    obtain ⟨k, pre, hk, hi0, hpl, hpx, hpy, hJs, hrow, hsz⟩ := hrel
    obtain ⟨I, hI⟩ : ∃ I : Int, I = (k : Int) := ⟨_, rfl⟩
    rw [← hI] at hi0
    subst hi0
    by_cases hlt : k < n
    · have d1 : decide (I < (n : Int)) = true := by simp; omega
      obtain ⟨g, cap, hv⟩ := Joins.ownsRow_form hrow.1 (by omega)
      have hA : A' = some ⟨g, 0, none⟩ := by injection hv
      obtain ⟨B, cB, y, hy, hcell, hby, hbb⟩ := (show RowS wr (fun b => lo ≤ b ∧ b < hi) (some ⟨g, 0, none⟩) n c' zs by rw [← hA]; exact hrow).at hlt
      subst hA
      rw [HS.out.2.2.1] at hy
      have hphi : PhiT N L pre (J pre) ⟨lo, hi, B, cB, y⟩ wr := ⟨by rw [hpl]; exact hy, hby, fun ad e hne => (hbb ad e hne).1, hsz, HS.out.2.2.2.1, hpy, fun ad e hne => (hbb ad e hne).2.2⟩
      have hyy := HY.out pre ⟨lo, hi, B, cB, y⟩ wr hJs hphi
      simp only [txE] at hyy
      obtain ⟨fn, tmps, assign, body, hyv, hR⟩ := hyy
      have hI2 : 0 ≤ I ∧ I < (n : Int) := by omega
      have hkI : I.toNat = k := by omega
      rw [← hkI] at hcell
      have HI := Lib.hid (And.intro hI (And.intro hlt (And.intro hpl (And.intro hpx (And.intro hpy (And.intro hrow (And.intro hsz hy)))))))
      have HRR := Lib.hid hR
      clear hI hlt hpl hpx hpy hJs hrow hsz hy hphi hR hbb hby hv hk hkI
      gi_wp2
      refine ⟨fun _ => by omega, ?_⟩
      refine HRR.out.mono ?_
      rintro e W3 (⟨rfl, hJ3, hk3⟩ | ⟨rfl, hJx3⟩)
      · have H3 := Lib.hid (And.intro hJ3 hk3)
        clear hJ3 hk3 hcell
        gi_wp2
        go_roundw
        case rel =>
          obtain ⟨hI, hlt, hpl, hpx, hpy, hrow, hsz, hy⟩ := HI.out
          refine ⟨k + 1, pre ++ [⟨lo, hi, B, cB, y⟩], by omega, by rw [hI]; rfl, by simp [hpl], ?_, fun z hz => ?_, H3.out.1, hrow.still (fun _ h => h) H3.out.2, Nat.le_trans hsz H3.out.2.1⟩
          · rw [List.map_append, hpx, List.take_add_one, hy]; rfl
          · rcases List.mem_append.1 hz with h | h
            · exact hpy z h
            · rw [List.mem_singleton.1 h]; exact ⟨rfl, rfl⟩
        case measure => obtain ⟨hI, hlt, _⟩ := HI.out; simp only [intOf]; omega
      · have H3 := Lib.hid hJx3
        clear hJx3
        gi_wp2
        refine bodyPost_ret (results_none rfl _ _ _) rfl ?_
        exact ⟨⟨_, rfl⟩, .inr ⟨_, trivial, H3.out⟩⟩
    · have d1 : decide (I < (n : Int)) = false := by simp; omega
      have HI := Lib.hid (And.intro hpx (And.intro hJs (show k = n by omega)))
      clear hI hlt hpl hpx hpy hJs hrow hsz hk
      gi_wp2
      go_end0
      obtain ⟨hpx, hJs, hk⟩ := HI.out
      exact ⟨⟨_, rfl⟩, .inl ⟨pre, by rw [hpx, List.take_of_length_le (by have := H0.out.2.2; omega)], hJs⟩⟩
theorem all_seq (m : Nat) (hm : 2 ≤ m) (bx p : Nat) (S : Nat → Prop) (L : List (List UInt8)) (hL : L.length ≤ 1000) (hsm : ∀ y ∈ L, y.length ≤ 100000) (w : World) (hP : PoolIs w S p L) (hb : Blk w bx 24 #[.pointer (some ⟨p, 0, none⟩)]) :
    SeqTold Fence.wide m Tryd.prog 30 #[.pointer (some ⟨bx, 0, none⟩)] txE KpT (PhiT w.heap.size L) (fun xs => xs.map (·.x) = L) (fun _ => True) w := fun l J Jx W hW hJ _ hY h0 =>
  all1_in m l bx p w.heap.size (fun k => S k ∧ k < w.heap.size) L hm hL hsm J Jx (fun s A B hA hg => hJ _ A B none hA hg (fun _ e => by cases e)) hY W hW.size
    ((hP.mono (fun k hk h => ⟨h, hk⟩)).kept (F := fun k => w.heap.size ≤ k) ⟨hW.os, hW.tape, hW.output, hW.size, fun k hk hn => hW.block k hk⟩ (fun k h1 h2 => by omega)) ((hW.block _ hb.lt).trans hb) h0
end Go.Proofs.YtnhjokcjdjfijaaDoor
