/-
  Several texts in one: TaAT, TaBT.
-/
import Derived.Test.YthcilpfcdblmkaaDoorTaP
import Derived.Test.YthcilpfcdblmkaaDoorGe
import Derived.Recover
import Derived.Defers
import Derived.Sort.CutIn
/-
  Tally, keys of type string: same; told, as an iterator.
-/
namespace Go.Proofs.YthcilpfcdblmkaaDoor
open Go.RowKit Go.Shelf

attribute [local go_sem] Oper.semAt_some

theorem catchT (w : World) :
    CallsD Tryd.prog 57 #[] .returning w fun e u' w' => (∃ v, e = .returned v) ∧ u' = .returning ∧ w' = w := by
  refine callsD_of_wpS Tryd.func57 rfl fun c₀ cs hu => ?_
  apply wpS_region
  simp [wpOpsS, go_sem, recoverD, hu, Tryd.ntmps57, Exit.thenS]
  cases c₀
  simp_all [bodyPostS, results, Tryd.results57]

set_option maxRecDepth 100000 in
theorem sameT_is (w : World) (a b : (List UInt8)) :
    Calls Tryd.prog 50 #[(.string ⟨(a).toArray⟩), (.string ⟨(b).toArray⟩)] w fun e w' => e = .returned (.bool (decide (a = b))) ∧ w = w' := by
  have hd : (decide (a = b)) = (a == b) := by rw [Bool.eq_iff_iff]; simp
  go_enter_defers Tryd.func50, Tryd.ntmps50
  go_wp2_with fail
  refine leaves_cons (f := 57) (args := #[]) (by simp) (by simp [go_sem]) ?_
  refine (catchT _).mono ?_
  rintro e u' w'' ⟨⟨v, rfl⟩, rfl, rfl⟩
  exact ⟨_, results_tmp rfl _ _ _, by rw [hd]; rfl, rfl⟩
end Go.Proofs.YthcilpfcdblmkaaDoor
/-
  Tally, keys of type string: told, as an iterator.
-/
namespace Go.Proofs.YthcilpfcdblmkaaDoor
open Go.RowKit Go.Shelf

attribute [local go_sem] Oper.semAt_some

def cellT (x : Wd (List UInt8)) : List Value := [.bool x.said, (.string ⟨(x.key).toArray⟩), .int .i64 x.thing]
theorem cellT_length (x : Wd (List UInt8)) : (cellT x).length = 3 := rfl
/-- The words by place lie in block b. -/
def WdsT (w : World) (b : Nat) (W : List (Wd (List UInt8))) : Prop := Blk w b 91 (W.flatMap cellT).toArray
theorem wdsT_cell {w : World} {b : Nat} {W : List (Wd (List UInt8))} (h : WdsT w b W) {k : Nat} (hk : k < W.length) {j : Nat} {v : Value} (hj : (cellT W[k])[j]? = some v) : w.cell? ⟨b, k * 3 + j, none⟩ = some v := by
  have h3 : j < 3 := by have := (List.getElem?_eq_some_iff.1 hj).1; rwa [cellT_length] at this
  have := h.cell (k * 3 + j)
  rw [List.getElem?_toArray, flat3 cellT cellT_length W k hk j h3, hj] at this
  exact this
/-- What a round is given: the place, the word. -/
def wdET (x : Nat × Wd (List UInt8)) : Array Value := #[.int .i64 (x.1 : Int), .agg #[.bool x.2.said, (.string ⟨(x.2.key).toArray⟩), .int .i64 x.2.thing]]
def KpWT (b : Nat) (_ : Nat × Wd (List UInt8)) : World → World → Prop := Still b (b + 1)
def PhiPT (W : List (Wd (List UInt8))) (pre : List (Nat × Wd (List UInt8))) (x : Nat × Wd (List UInt8)) : Prop := ∃ (k : Nat) (h : k < W.length), pre = toldK W k ∧ x = (k, W[k]) ∧ W[k].said = true
def PhiWT (W : List (Wd (List UInt8))) (pre : List (Nat × Wd (List UInt8))) (_ : World → Prop) (x : Nat × Wd (List UInt8)) (_ : World) : Prop := PhiPT W pre x
theorem PhiWT.mono {W : List (Wd (List UInt8))} (pre : List (Nat × Wd (List UInt8))) (p q : World → Prop) (x : Nat × Wd (List UInt8)) (V : World) (_ : ∀ U, p U → q U) (k : PhiWT W pre p x V) : PhiWT W pre q x V := k

theorem toldT_in (F : Fence) (m t : Nat) (w : World) (h : F = Fence.wide) : CallsIn F m Tryd.prog 49 #[.pointer (some ⟨t, 0, none⟩)] w fun e w' => e = .returned (.func (.func 56) #[] #[.pointer (some ⟨w.heap.size, 0, none⟩)]) ∧
      w' = w.alloc (.cells #[.pointer (some ⟨t, 0, none⟩)] 63) := by
  subst h
  refine callsIn_of_wp Tryd.func49 rfl trivial ?_ rfl
  simp only [Tryd.ntmps49, List.size_toArray, List.length_cons, List.length_nil, Nat.reduceAdd, Nat.reduceSub, Array.replicate_succ, Array.replicate_zero, List.push_toArray, List.append_toArray, List.nil_append, List.cons_append]
  gi_wp2
  go_ret
  exact ⟨rfl, rfl⟩

set_option maxRecDepth 100000 in
set_option maxHeartbeats 2000000 in
theorem told1T_in (m l bx t b n : Nat) (W0 : List (Wd (List UInt8))) (hm : 1 ≤ m) (hn : W0.length = n) (hnb : n ≤ 1000) (J Jx : List (Nat × Wd (List UInt8)) → World → Prop)
    (hJ : ∀ s A B, J s A → A.grownBy B none → J s B)
    (hY : ∀ pre x V, J pre V → PhiWT W0 pre (J pre) x V → YieldAt Fence.wide (m - 1) Tryd.prog l (wdET x) V fun e V' =>
      (e = .returned (.bool true) ∧ J (pre ++ [x]) V' ∧ KpWT b x V V') ∨ (e = .returned (.bool false) ∧ Jx (pre ++ [x]) V'))
    (W : World) (hc : W.cell? ⟨t, 1, none⟩ = some (.slice (some ⟨b, 0, none⟩) n n)) (hW : WdsT W b W0) (hb : Blk W bx 63 #[.pointer (some ⟨t, 0, none⟩)]) (h0 : J [] W) :
    CallsIn Fence.wide m Tryd.prog 56 #[.func (.yield l) #[] #[], .pointer (some ⟨bx, 0, none⟩)] W fun e W' => (∃ v, e = .returned v) ∧
      ((∃ xs, xs = toldL W0 ∧ J xs W') ∨ (∃ pre, True ∧ Jx pre W')) := by
  have c1 := hb.cell 0
  simp only [List.getElem?_toArray, List.getElem?_cons_zero] at c1
  have H0 := Lib.hid (And.intro h0 (And.intro hW hn))
  have HJ := Lib.hid hJ
  have HY := Lib.hid hY
  clear h0 hW hn hJ hY hb
  refine callsIn_of_wp Tryd.func56 rfl trivial ?_ rfl
  simp only [Tryd.ntmps56, List.size_toArray, List.length_cons, List.length_nil, Nat.reduceAdd, Nat.reduceSub, Array.replicate_succ, Array.replicate_zero, List.push_toArray, List.append_toArray, List.nil_append, List.cons_append]
  gi_wp2
  clear c1 hc
  gi_loopw [10] (fun i wr => ∃ k : Nat, k ≤ n ∧ i = .int .i64 (k : Int) ∧ J (toldK W0 k) wr ∧ WdsT wr b W0) (fun i _ => (n - (intOf i).toNat))
  case atStart => exact ⟨0, Nat.zero_le _, rfl, H0.out.1, H0.out.2.1⟩
  case round =>
    obtain ⟨k, hk, hi0, hJs, hWs⟩ := hrel
    obtain ⟨I, hI⟩ : ∃ I : Int, I = (k : Int) := ⟨_, rfl⟩
    rw [← hI] at hi0
    subst hi0
    by_cases hlt : k < n
    · have d1 : decide (I < (n : Int)) = true := by simp; omega
      have hkx : k < W0.length := by have := H0.out.2.2; omega
      have x0 := wdsT_cell hWs hkx (j := 0) rfl
      have x1 := wdsT_cell hWs hkx (j := 1) rfl
      have x2 := wdsT_cell hWs hkx (j := 2) rfl
      have hkI : I.toNat = k := by omega
      obtain ⟨x, hx⟩ : ∃ x, W0[k] = x := ⟨_, rfl⟩
      have hphi : x.said = true → PhiWT W0 (toldK W0 k) (J (toldK W0 k)) (k, x) wr := fun h => ⟨k, hkx, rfl, by rw [hx], by rw [hx]; exact h⟩
      have hyes : x.said = true → toldK W0 (k + 1) = toldK W0 k ++ [(k, x)] := fun h => by rw [toldK_yes hkx (by rw [hx]; exact h), hx]
      have hno : x.said = false → toldK W0 (k + 1) = toldK W0 k := fun h => toldK_no hkx (by rw [hx]; exact h)
      simp only [hx, Nat.add_zero] at x0 x1 x2
      rw [← hkI] at x0 x1 x2
      obtain ⟨W1, hW1⟩ : ∃ W1, wr.alloc (.cells #[.bool x.said, (.string ⟨(x.key).toArray⟩), .int .i64 x.thing] 91) = W1 := ⟨_, rfl⟩
      have hg1 : wr.grownBy W1 none := by rw [← hW1]; exact World.grownBy_alloc _ _ none
      have hJ1 : J (toldK W0 k) W1 := HJ.out _ _ _ hJs hg1
      have hyy := fun h => HY.out (toldK W0 k) (k, x) W1 hJ1 (hphi h)
      have hbx : Blk W1 wr.heap.size 91 #[.bool x.said, (.string ⟨(x.key).toArray⟩), .int .i64 x.thing] := by rw [← hW1]; exact Blk.new _ _ _
      have hWs1 : WdsT W1 b W0 := hWs.grown hg1 (by simp)
      obtain ⟨g, hg⟩ : ∃ g, wr.heap.size = g := ⟨_, rfl⟩
      rw [hg] at hbx
      obtain ⟨sd, ky, th⟩ := x
      simp only [wdET, ← hI] at hyy x0 x1 x2 hW1 hbx
      have hI2 : 0 ≤ I ∧ I < (n : Int) := by omega
      have HI := Lib.hid (And.intro hI (And.intro hlt (And.intro hyes (And.intro hno (And.intro hJ1 hWs1)))))
      have q0 := hbx.cell 0
      have q1 := hbx.cell 1
      have q2 := hbx.cell 2
      simp only [List.getElem?_toArray, List.getElem?_cons_zero, List.getElem?_cons_succ] at q0 q1 q2
      clear hI hlt hyes hno hJ1 hWs1 hJs hWs hg1 hbx hphi hx hk hkI hkx
      cases sd with
      | true =>
        obtain ⟨fn, tmps, assign, body, hyv, hR⟩ := hyy rfl
        have HRR := Lib.hid hR
        clear hR hyy
        gi_upto_region 3 with fail
        (try rw [hW1]); (try rw [hg])
        clear x0 x1 x2 hW1 hg
        gi_wp2
        refine HRR.out.mono ?_
        rintro e W3 (⟨rfl, hJ3, hk3⟩ | ⟨rfl, hJx3⟩)
        · have H3 := Lib.hid (And.intro hJ3 hk3)
          clear hJ3 hk3
          gi_wp2
          go_roundw
          case rel =>
            obtain ⟨hI, hlt, hyes, _, _, hWs1⟩ := HI.out
            exact ⟨k + 1, by omega, by rw [hI]; rfl, by rw [hyes (by simp)]; exact H3.out.1, H3.out.2.2 b _ (Nat.le_refl b) (Nat.lt_succ_self b) hWs1 rfl⟩
          case measure => obtain ⟨hI, hlt, _⟩ := HI.out; simp only [intOf]; omega
        · have H3 := Lib.hid hJx3
          clear hJx3
          gi_wp2
          refine bodyPost_ret (results_none rfl _ _ _) rfl ?_
          exact ⟨⟨_, rfl⟩, .inr ⟨_, trivial, H3.out⟩⟩
      | false =>
        clear hyy
        gi_upto_region 3 with fail
        (try rw [hW1]); (try rw [hg])
        clear x0 x1 x2 hW1 hg
        gi_wp2
        rename_i hKK _ _ _ _
        refine ⟨fun _ e => (by cases e), hKK _ _ ?_⟩
        clear hKK
        gi_wp2
        go_roundw
        case rel =>
          obtain ⟨hI, hlt, _, hno, hJ1, hWs1⟩ := HI.out
          exact ⟨k + 1, by omega, by rw [hI]; rfl, by rw [hno (by simp)]; exact hJ1, hWs1⟩
        case measure => obtain ⟨hI, hlt, _⟩ := HI.out; simp only [intOf]; omega
    · have d1 : decide (I < (n : Int)) = false := by simp; omega
      have HI := Lib.hid (And.intro hJs (show k = n by omega))
      clear hI hlt hJs hWs hk
      gi_wp2
      go_end0
      obtain ⟨hJs, rfl⟩ := HI.out
      exact ⟨⟨_, rfl⟩, .inl ⟨_, by rw [toldL, H0.out.2.2], hJs⟩⟩
theorem toldT_seq (m : Nat) (hm : 1 ≤ m) (bx t b n : Nat) (W0 : List (Wd (List UInt8))) (hn : W0.length = n) (hnb : n ≤ 1000) (w : World) (ht : t < w.heap.size) (hc : w.cell? ⟨t, 1, none⟩ = some (.slice (some ⟨b, 0, none⟩) n n)) (hW : WdsT w b W0) (hb : Blk w bx 63 #[.pointer (some ⟨t, 0, none⟩)]) :
    SeqTold Fence.wide m Tryd.prog 56 #[.pointer (some ⟨bx, 0, none⟩)] wdET (KpWT b) (PhiWT W0) (fun xs => xs = toldL W0) (fun _ => True) w := fun l J Jx W hB hJ _ hY h0 =>
  told1T_in m l bx t b n W0 hm hn hnb J Jx (fun s A B hA hg => hJ _ A B none hA hg (fun _ e => by cases e)) hY W ((hB.cell (p := ⟨t, 1, none⟩) ht).trans hc) ((hB.block _ hW.lt).trans hW) ((hB.block _ hb.lt).trans hb) h0
end Go.Proofs.YthcilpfcdblmkaaDoor
