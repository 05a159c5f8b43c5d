/-
  Package rules: Late, Propose, Enter.
-/
import Derived.Test.YtjmdlpefacbmmaaDoorRu3
namespace Go.Proofs.YtjmdlpefacbmmaaDoor
open Go.RowKit

set_option maxHeartbeats 1000000 in
theorem late_chk (w : World) (B : Nat) (E : Nat → Addr) (he : ErrEnv w B E) (e v l p f ep r : Int) (k : Nat) (h : chkN e v l p f ep r = k + 1) :
    Calls Tryd.prog 23 #[stV e v l p f, .int .i64 ep, .int .i64 r] w fun en w' => en = .returned (.tuple #[stV e v l p f, errV (E k)]) ∧ w.grownBy w' none := by
  have ka := World.grownBy_alloc w (.cells (stC e v l p f) 23) none
  have kb := grown_trans ka (World.grownBy_alloc _ (.cells (stC 0 0 0 0 0) 23) none)
  have hA := (Blk.new w 23 (stC e v l p f)).alloc (.cells (stC 0 0 0 0 0) 23)
  have hB := Blk.new (w.alloc (.cells (stC e v l p f) 23)) 23 (stC 0 0 0 0 0)
  rw [World.size_alloc] at hB
  go_enter Tryd.func23, Tryd.ntmps23
  go_wp2_with fail
  refine (check_bad _ B E (he.grown kb (by simp)) _ _ _ _ _ _ _ k h).mono ?_
  rintro en w1 ⟨rfl, k1⟩
  have hA1 := hA.grown k1 (by simp)
  have hB1 := hB.grown k1 (by simp)
  have a0 := hA1.cell 0
  have a1 := hA1.cell 1
  have a2 := hA1.cell 2
  have a3 := hA1.cell 3
  have a4 := hA1.cell 4
  have b0 := hB1.cell 0
  have b1 := hB1.cell 1
  have b2 := hB1.cell 2
  have b3 := hB1.cell 3
  have b4 := hB1.cell 4
  have f0 := hB1.frozen 0
  have f1 := hB1.frozen 1
  have f2 := hB1.frozen 2
  have f3 := hB1.frozen 3
  have f4 := hB1.frozen 4
  simp at a0 a1 a2 a3 a4 b0 b1 b2 b3 b4
  have kk := grown_trans kb k1
  clear hA hB hA1 k1
  go_wp2_with fail
  refine bodyPost_ret (results_cell_tmp rfl _ _ _ ⟨w.heap.size + 1, 0, none⟩ _ rfl (load5 (hB1.set5 _ _ _ _ _))) rfl ?_
  exact ⟨rfl, grown_set5 kk (by omega) _ _ _ _ _⟩

def lateE (e v l p f ep r : Int) : Nat := if chkN e v l p f ep r ≠ 0 then chkN e v l p f ep r else if f = 32 then 5 else 0
def lateV (v r : Int) : Int := if r ≤ v then v else r
theorem lateE_eq {e v l p f ep r : Int} (h : chkN e v l p f ep r = 0) : lateE e v l p f ep r = if f = 32 then 5 else 0 := by simp [lateE, h]

set_option maxHeartbeats 4000000 in
theorem late_rest (w : World) (B : Nat) (E : Nat → Addr) (he : ErrEnv w B E) (e v l p f ep r : Int) (h : chkN e v l p f ep r = 0) :
    Calls Tryd.prog 23 #[stV e v l p f, .int .i64 ep, .int .i64 r] w fun en w' => en = .returned (.tuple #[if lateE e v l p f ep r = 0 then stV e (lateV v r) l p (f + 1) else stV e v l p f, evOf E (lateE e v l p f ep r)]) ∧ w.grownBy w' none := by
  have ka := World.grownBy_alloc w (.cells (stC e v l p f) 23) none
  have kb := grown_trans ka (World.grownBy_alloc _ (.cells (stC 0 0 0 0 0) 23) none)
  have hA := (Blk.new w 23 (stC e v l p f)).alloc (.cells (stC 0 0 0 0 0) 23)
  have hB := Blk.new (w.alloc (.cells (stC e v l p f) 23)) 23 (stC 0 0 0 0 0)
  rw [World.size_alloc] at hB
  cases d4 : (f == 32)
  · have hv : lateE e v l p f ep r = 0 := by rw [lateE_eq h]; simp at d4; rw [if_neg d4]
    have hR : rightB e v l p f = true := by
      unfold chkN at h
      split at h
      · cases h
      · simpa using ‹¬ rightB e v l p f = false›
    have hf := (right_yes e v l p f hR).2.2.2.2.2.2.2.2
    clear hR
    by_cases m : r ≤ v
    · have hl : lateV v r = v := by simp [lateV, m]
      go_enter Tryd.func23, Tryd.ntmps23
      go_wp2_with fail
      refine (check_ok _ B E (he.grown kb (by simp)) _ _ _ _ _ _ _ h).mono ?_
      rintro en w1 ⟨rfl, k1⟩
      have he1 := (he.grown kb (by simp)).grown k1 (by simp)
      have hA1 := hA.grown k1 (by simp)
      have hB1 := hB.grown k1 (by simp)
      have a0 := hA1.cell 0
      have a1 := hA1.cell 1
      have a2 := hA1.cell 2
      have a3 := hA1.cell 3
      have a4 := hA1.cell 4
      simp at a0 a1 a2 a3 a4
      have kk := grown_trans kb k1
      have hA2 := hA1.alloc (.cells (stC e v l p f) 23)
      have hB2 := hB1.alloc (.cells (stC e v l p f) 23)
      have hC := Blk.new w1 23 (stC e v l p f)
      have kc := grown_trans kk (World.grownBy_alloc w1 (.cells (stC e v l p f) 23) none)
      have nA := hA1.lt
      have nB := hB1.lt
      have he2 := he1.alloc (.cells (stC e v l p f) 23)
      clear hA hB k1 hA1 hB1
      go_wp2_with fail
      refine (spend_ok _ _ _ _ _ _ _ hC d4 hf).mono ?_
      rintro en w2 ⟨rfl, hC3, k2⟩
      have hA3 := hA2.grown k2 (by simp; omega)
      have hB3 := hB2.grown k2 (by simp; omega)
      have a0 := hA3.cell 0
      have a1 := hA3.cell 1
      have a2 := hA3.cell 2
      have a3 := hA3.cell 3
      have a4 := hA3.cell 4
      have b0 := hB3.cell 0
      have b1 := hB3.cell 1
      have b2 := hB3.cell 2
      have b3 := hB3.cell 3
      have b4 := hB3.cell 4
      have f0 := hB3.frozen 0
      have f1 := hB3.frozen 1
      have f2 := hB3.frozen 2
      have f3 := hB3.frozen 3
      have f4 := hB3.frozen 4
      simp at a0 a1 a2 a3 a4 b0 b1 b2 b3 b4
      have c0 := hC3.cell 0
      have c1 := hC3.cell 1
      have c2 := hC3.cell 2
      have c3 := hC3.cell 3
      have c4 := hC3.cell 4
      have fc0 := hC3.frozen 0
      have fc1 := hC3.frozen 1
      have fc2 := hC3.frozen 2
      have fc3 := hC3.frozen 3
      have fc4 := hC3.frozen 4
      simp at c0 c1 c2 c3 c4
      have q1 : ¬ w1.heap.size = w.heap.size := by omega
      have q2 : ¬ w.heap.size = w1.heap.size := by omega
      have q3 : ¬ w1.heap.size = w.heap.size + 1 := by omega
      have q4 : ¬ w.heap.size + 1 = w1.heap.size := by omega
      have k3 : w.grownBy w2 none := (Kept.of_grown (F := fun _ => False) kc (fun _ h => by cases h)).trans (Kept.of_grown (F := upTo (fun _ => False) w.heap.size _) k2 (fun g' e => by cases e; exact .inr ⟨by omega, by simp⟩)) |>.grownNone (fun _ _ h => h)
      clear hA2 hB2 hC kc kk k2 hA3 hf
      go_wp2
      refine bodyPost_ret (results_cell_tmp rfl _ _ _ ⟨w.heap.size + 1, 0, none⟩ _ rfl (load5 ((hB3.far q4 _).set5 _ _ _ _ _))) rfl ?_
      exact ⟨by first | rfl | (rw [hv, hl]; rfl), grown_set5 (grown_set1 k3 (by omega) _) (by omega) _ _ _ _ _⟩
    · have hl : lateV v r = r := by simp [lateV, m]
      go_enter Tryd.func23, Tryd.ntmps23
      go_wp2_with fail
      refine (check_ok _ B E (he.grown kb (by simp)) _ _ _ _ _ _ _ h).mono ?_
      rintro en w1 ⟨rfl, k1⟩
      have he1 := (he.grown kb (by simp)).grown k1 (by simp)
      have hA1 := hA.grown k1 (by simp)
      have hB1 := hB.grown k1 (by simp)
      have a0 := hA1.cell 0
      have a1 := hA1.cell 1
      have a2 := hA1.cell 2
      have a3 := hA1.cell 3
      have a4 := hA1.cell 4
      simp at a0 a1 a2 a3 a4
      have kk := grown_trans kb k1
      have hA2 := hA1.alloc (.cells (stC e v l p f) 23)
      have hB2 := hB1.alloc (.cells (stC e v l p f) 23)
      have hC := Blk.new w1 23 (stC e v l p f)
      have kc := grown_trans kk (World.grownBy_alloc w1 (.cells (stC e v l p f) 23) none)
      have nA := hA1.lt
      have nB := hB1.lt
      have he2 := he1.alloc (.cells (stC e v l p f) 23)
      clear hA hB k1 hA1 hB1
      go_wp2_with fail
      refine (spend_ok _ _ _ _ _ _ _ hC d4 hf).mono ?_
      rintro en w2 ⟨rfl, hC3, k2⟩
      have hA3 := hA2.grown k2 (by simp; omega)
      have hB3 := hB2.grown k2 (by simp; omega)
      have a0 := hA3.cell 0
      have a1 := hA3.cell 1
      have a2 := hA3.cell 2
      have a3 := hA3.cell 3
      have a4 := hA3.cell 4
      have b0 := hB3.cell 0
      have b1 := hB3.cell 1
      have b2 := hB3.cell 2
      have b3 := hB3.cell 3
      have b4 := hB3.cell 4
      have f0 := hB3.frozen 0
      have f1 := hB3.frozen 1
      have f2 := hB3.frozen 2
      have f3 := hB3.frozen 3
      have f4 := hB3.frozen 4
      simp at a0 a1 a2 a3 a4 b0 b1 b2 b3 b4
      have c0 := hC3.cell 0
      have c1 := hC3.cell 1
      have c2 := hC3.cell 2
      have c3 := hC3.cell 3
      have c4 := hC3.cell 4
      have fc0 := hC3.frozen 0
      have fc1 := hC3.frozen 1
      have fc2 := hC3.frozen 2
      have fc3 := hC3.frozen 3
      have fc4 := hC3.frozen 4
      simp at c0 c1 c2 c3 c4
      have q1 : ¬ w1.heap.size = w.heap.size := by omega
      have q2 : ¬ w.heap.size = w1.heap.size := by omega
      have q3 : ¬ w1.heap.size = w.heap.size + 1 := by omega
      have q4 : ¬ w.heap.size + 1 = w1.heap.size := by omega
      have k3 : w.grownBy w2 none := (Kept.of_grown (F := fun _ => False) kc (fun _ h => by cases h)).trans (Kept.of_grown (F := upTo (fun _ => False) w.heap.size _) k2 (fun g' e => by cases e; exact .inr ⟨by omega, by simp⟩)) |>.grownNone (fun _ _ h => h)
      clear hA2 hB2 hC kc kk k2 hA3 hf
      go_wp2
      refine bodyPost_ret (results_cell_tmp rfl _ _ _ ⟨w.heap.size + 1, 0, none⟩ _ rfl (load5 ((hB3.far q4 _).set5 _ _ _ _ _))) rfl ?_
      exact ⟨by first | rfl | (rw [hv, hl]; rfl), grown_set5 (grown_set1 k3 (by omega) _) (by omega) _ _ _ _ _⟩
  · have hv : lateE e v l p f ep r = 5 := by rw [lateE_eq h]; simp at d4; rw [if_pos d4]
    go_enter Tryd.func23, Tryd.ntmps23
    go_wp2_with fail
    refine (check_ok _ B E (he.grown kb (by simp)) _ _ _ _ _ _ _ h).mono ?_
    rintro en w1 ⟨rfl, k1⟩
    have he1 := (he.grown kb (by simp)).grown k1 (by simp)
    have hA1 := hA.grown k1 (by simp)
    have hB1 := hB.grown k1 (by simp)
    have a0 := hA1.cell 0
    have a1 := hA1.cell 1
    have a2 := hA1.cell 2
    have a3 := hA1.cell 3
    have a4 := hA1.cell 4
    simp at a0 a1 a2 a3 a4
    have kk := grown_trans kb k1
    have hA2 := hA1.alloc (.cells (stC e v l p f) 23)
    have hB2 := hB1.alloc (.cells (stC e v l p f) 23)
    have hC := Blk.new w1 23 (stC e v l p f)
    have kc := grown_trans kk (World.grownBy_alloc w1 (.cells (stC e v l p f) 23) none)
    have nA := hA1.lt
    have nB := hB1.lt
    have he2 := he1.alloc (.cells (stC e v l p f) 23)
    clear hA hB k1 hA1 hB1
    go_wp2_with fail
    refine (spend_bad _ B E he2 _ _ _ _ _ _ hC d4).mono ?_
    rintro en w2 ⟨rfl, k2⟩
    have hA3 := hA2.grown k2 (by simp; omega)
    have hB3 := hB2.grown k2 (by simp; omega)
    have a0 := hA3.cell 0
    have a1 := hA3.cell 1
    have a2 := hA3.cell 2
    have a3 := hA3.cell 3
    have a4 := hA3.cell 4
    have b0 := hB3.cell 0
    have b1 := hB3.cell 1
    have b2 := hB3.cell 2
    have b3 := hB3.cell 3
    have b4 := hB3.cell 4
    have f0 := hB3.frozen 0
    have f1 := hB3.frozen 1
    have f2 := hB3.frozen 2
    have f3 := hB3.frozen 3
    have f4 := hB3.frozen 4
    simp at a0 a1 a2 a3 a4 b0 b1 b2 b3 b4
    have k3 : w.grownBy w2 none := (Kept.of_grown (F := fun _ => False) kc (fun _ h => by cases h)).trans (Kept.of_grown (F := upTo (fun _ => False) w.heap.size _) k2 (fun g' e => by cases e; exact .inr ⟨by omega, by simp⟩)) |>.grownNone (fun _ _ h => h)
    clear hA2 hB2 hC kc kk k2 hA3
    go_wp2
    refine bodyPost_ret (results_cell_tmp rfl _ _ _ ⟨w.heap.size + 1, 0, none⟩ _ rfl (load5 (hB3.set5 _ _ _ _ _))) rfl ?_
    exact ⟨by first | rfl | (rw [hv]; rfl), grown_set5 k3 (by omega) _ _ _ _ _⟩

set_option maxHeartbeats 1000000 in
theorem prop_chk (w : World) (B : Nat) (E : Nat → Addr) (he : ErrEnv w B E) (e v l p f ep r : Int) (k : Nat) (h : chkN e v l p f ep r = k + 1) :
    Calls Tryd.prog 24 #[stV e v l p f, .int .i64 ep, .int .i64 r] w fun en w' => en = .returned (.tuple #[stV e v l p f, errV (E k)]) ∧ w.grownBy w' none := by
  have ka := World.grownBy_alloc w (.cells (stC e v l p f) 23) none
  have kb := grown_trans ka (World.grownBy_alloc _ (.cells (stC 0 0 0 0 0) 23) none)
  have hA := (Blk.new w 23 (stC e v l p f)).alloc (.cells (stC 0 0 0 0 0) 23)
  have hB := Blk.new (w.alloc (.cells (stC e v l p f) 23)) 23 (stC 0 0 0 0 0)
  rw [World.size_alloc] at hB
  go_enter Tryd.func24, Tryd.ntmps24
  go_wp2_with fail
  refine (check_bad _ B E (he.grown kb (by simp)) _ _ _ _ _ _ _ k h).mono ?_
  rintro en w1 ⟨rfl, k1⟩
  have hA1 := hA.grown k1 (by simp)
  have hB1 := hB.grown k1 (by simp)
  have a0 := hA1.cell 0
  have a1 := hA1.cell 1
  have a2 := hA1.cell 2
  have a3 := hA1.cell 3
  have a4 := hA1.cell 4
  have b0 := hB1.cell 0
  have b1 := hB1.cell 1
  have b2 := hB1.cell 2
  have b3 := hB1.cell 3
  have b4 := hB1.cell 4
  have f0 := hB1.frozen 0
  have f1 := hB1.frozen 1
  have f2 := hB1.frozen 2
  have f3 := hB1.frozen 3
  have f4 := hB1.frozen 4
  simp at a0 a1 a2 a3 a4 b0 b1 b2 b3 b4
  have kk := grown_trans kb k1
  clear hA hB hA1 k1
  go_wp2_with fail
  refine bodyPost_ret (results_cell_tmp rfl _ _ _ ⟨w.heap.size + 1, 0, none⟩ _ rfl (load5 (hB1.set5 _ _ _ _ _))) rfl ?_
  exact ⟨rfl, grown_set5 kk (by omega) _ _ _ _ _⟩

def propE (e v l p f ep r : Int) : Nat := if chkN e v l p f ep r ≠ 0 then chkN e v l p f ep r else if r ≤ p then 10 else if f = 32 then 5 else 0
theorem propE_eq {e v l p f ep r : Int} (h : chkN e v l p f ep r = 0) : propE e v l p f ep r = if r ≤ p then 10 else if f = 32 then 5 else 0 := by simp [propE, h]

set_option maxHeartbeats 4000000 in
theorem prop_rest (w : World) (B : Nat) (E : Nat → Addr) (he : ErrEnv w B E) (e v l p f ep r : Int) (h : chkN e v l p f ep r = 0) :
    Calls Tryd.prog 24 #[stV e v l p f, .int .i64 ep, .int .i64 r] w fun en w' => en = .returned (.tuple #[if propE e v l p f ep r = 0 then stV e v l r (f + 1) else stV e v l p f, evOf E (propE e v l p f ep r)]) ∧ w.grownBy w' none := by
  have ka := World.grownBy_alloc w (.cells (stC e v l p f) 23) none
  have kb := grown_trans ka (World.grownBy_alloc _ (.cells (stC 0 0 0 0 0) 23) none)
  have hA := (Blk.new w 23 (stC e v l p f)).alloc (.cells (stC 0 0 0 0 0) 23)
  have hB := Blk.new (w.alloc (.cells (stC e v l p f) 23)) 23 (stC 0 0 0 0 0)
  rw [World.size_alloc] at hB
  by_cases hp : r ≤ p
  · have d : decide (r ≤ p) = true := by simpa using hp
    have hv : propE e v l p f ep r = 10 := by rw [propE_eq h, if_pos hp]
    go_enter Tryd.func24, Tryd.ntmps24
    go_wp2_with fail
    refine (check_ok _ B E (he.grown kb (by simp)) _ _ _ _ _ _ _ h).mono ?_
    rintro en w1 ⟨rfl, k1⟩
    have gv := ((he.grown kb (by simp)).grown k1 (by simp)).old
    have n13 : ¬ 9 = w.heap.size + 1 := far_var he.old
    have m13 : ¬ w.heap.size + 1 = 9 := fun e => n13 e.symm
    have hA1 := hA.grown k1 (by simp)
    have hB1 := hB.grown k1 (by simp)
    have a0 := hA1.cell 0
    have a1 := hA1.cell 1
    have a2 := hA1.cell 2
    have a3 := hA1.cell 3
    have a4 := hA1.cell 4
    have b0 := hB1.cell 0
    have b1 := hB1.cell 1
    have b2 := hB1.cell 2
    have b3 := hB1.cell 3
    have b4 := hB1.cell 4
    have f0 := hB1.frozen 0
    have f1 := hB1.frozen 1
    have f2 := hB1.frozen 2
    have f3 := hB1.frozen 3
    have f4 := hB1.frozen 4
    simp at a0 a1 a2 a3 a4 b0 b1 b2 b3 b4
    have kk := grown_trans kb k1
    clear hA hB hA1 k1
    go_wp2_with fail
    go_region
    all_goals
      go_wp2_with fail
      refine bodyPost_ret (results_cell_tmp rfl _ _ _ ⟨w.heap.size + 1, 0, none⟩ _ rfl (load5 (hB1.set5 _ _ _ _ _).drew)) rfl ?_
      exact ⟨by first | rfl | (rw [hv]; rfl), grown_drew (grown_set5 kk (by omega) _ _ _ _ _)⟩
  · have d : decide (r ≤ p) = false := by simpa using hp
    cases d4 : (f == 32)
    · have hv : propE e v l p f ep r = 0 := by rw [propE_eq h, if_neg hp]; simp at d4; rw [if_neg d4]
      have hR : rightB e v l p f = true := by
        unfold chkN at h
        split at h
        · cases h
        · simpa using ‹¬ rightB e v l p f = false›
      have hf := (right_yes e v l p f hR).2.2.2.2.2.2.2.2
      clear hR
      go_enter Tryd.func24, Tryd.ntmps24
      go_wp2_with fail
      refine (check_ok _ B E (he.grown kb (by simp)) _ _ _ _ _ _ _ h).mono ?_
      rintro en w1 ⟨rfl, k1⟩
      have he1 := (he.grown kb (by simp)).grown k1 (by simp)
      have hA1 := hA.grown k1 (by simp)
      have hB1 := hB.grown k1 (by simp)
      have a0 := hA1.cell 0
      have a1 := hA1.cell 1
      have a2 := hA1.cell 2
      have a3 := hA1.cell 3
      have a4 := hA1.cell 4
      simp at a0 a1 a2 a3 a4
      have kk := grown_trans kb k1
      have hA2 := hA1.alloc (.cells (stC e v l p f) 23)
      have hB2 := hB1.alloc (.cells (stC e v l p f) 23)
      have hC := Blk.new w1 23 (stC e v l p f)
      have kc := grown_trans kk (World.grownBy_alloc w1 (.cells (stC e v l p f) 23) none)
      have nA := hA1.lt
      have nB := hB1.lt
      have he2 := he1.alloc (.cells (stC e v l p f) 23)
      clear hA hB k1 hA1 hB1
      go_wp2_with fail
      refine (spend_ok _ _ _ _ _ _ _ hC d4 hf).mono ?_
      rintro en w2 ⟨rfl, hC3, k2⟩
      have hA3 := hA2.grown k2 (by simp; omega)
      have hB3 := hB2.grown k2 (by simp; omega)
      have a0 := hA3.cell 0
      have a1 := hA3.cell 1
      have a2 := hA3.cell 2
      have a3 := hA3.cell 3
      have a4 := hA3.cell 4
      have b0 := hB3.cell 0
      have b1 := hB3.cell 1
      have b2 := hB3.cell 2
      have b3 := hB3.cell 3
      have b4 := hB3.cell 4
      have f0 := hB3.frozen 0
      have f1 := hB3.frozen 1
      have f2 := hB3.frozen 2
      have f3 := hB3.frozen 3
      have f4 := hB3.frozen 4
      simp at a0 a1 a2 a3 a4 b0 b1 b2 b3 b4
      have c0 := hC3.cell 0
      have c1 := hC3.cell 1
      have c2 := hC3.cell 2
      have c3 := hC3.cell 3
      have c4 := hC3.cell 4
      have fc0 := hC3.frozen 0
      have fc1 := hC3.frozen 1
      have fc2 := hC3.frozen 2
      have fc3 := hC3.frozen 3
      have fc4 := hC3.frozen 4
      simp at c0 c1 c2 c3 c4
      have q1 : ¬ w1.heap.size = w.heap.size := by omega
      have q2 : ¬ w.heap.size = w1.heap.size := by omega
      have q3 : ¬ w1.heap.size = w.heap.size + 1 := by omega
      have q4 : ¬ w.heap.size + 1 = w1.heap.size := by omega
      have k3 : w.grownBy w2 none := (Kept.of_grown (F := fun _ => False) kc (fun _ h => by cases h)).trans (Kept.of_grown (F := upTo (fun _ => False) w.heap.size _) k2 (fun g' e => by cases e; exact .inr ⟨by omega, by simp⟩)) |>.grownNone (fun _ _ h => h)
      clear hA2 hB2 hC kc kk k2 hA3 hf
      go_wp2
      refine bodyPost_ret (results_cell_tmp rfl _ _ _ ⟨w.heap.size + 1, 0, none⟩ _ rfl (load5 ((hB3.far q4 _).set5 _ _ _ _ _))) rfl ?_
      exact ⟨by first | rfl | (rw [hv]; rfl), grown_set5 (grown_set1 k3 (by omega) _) (by omega) _ _ _ _ _⟩
    · have hv : propE e v l p f ep r = 5 := by rw [propE_eq h, if_neg hp]; simp at d4; rw [if_pos d4]
      go_enter Tryd.func24, Tryd.ntmps24
      go_wp2_with fail
      refine (check_ok _ B E (he.grown kb (by simp)) _ _ _ _ _ _ _ h).mono ?_
      rintro en w1 ⟨rfl, k1⟩
      have he1 := (he.grown kb (by simp)).grown k1 (by simp)
      have hA1 := hA.grown k1 (by simp)
      have hB1 := hB.grown k1 (by simp)
      have a0 := hA1.cell 0
      have a1 := hA1.cell 1
      have a2 := hA1.cell 2
      have a3 := hA1.cell 3
      have a4 := hA1.cell 4
      simp at a0 a1 a2 a3 a4
      have kk := grown_trans kb k1
      have hA2 := hA1.alloc (.cells (stC e v l p f) 23)
      have hB2 := hB1.alloc (.cells (stC e v l p f) 23)
      have hC := Blk.new w1 23 (stC e v l p f)
      have kc := grown_trans kk (World.grownBy_alloc w1 (.cells (stC e v l p f) 23) none)
      have nA := hA1.lt
      have nB := hB1.lt
      have he2 := he1.alloc (.cells (stC e v l p f) 23)
      clear hA hB k1 hA1 hB1
      go_wp2_with fail
      refine (spend_bad _ B E he2 _ _ _ _ _ _ hC d4).mono ?_
      rintro en w2 ⟨rfl, k2⟩
      have hA3 := hA2.grown k2 (by simp; omega)
      have hB3 := hB2.grown k2 (by simp; omega)
      have a0 := hA3.cell 0
      have a1 := hA3.cell 1
      have a2 := hA3.cell 2
      have a3 := hA3.cell 3
      have a4 := hA3.cell 4
      have b0 := hB3.cell 0
      have b1 := hB3.cell 1
      have b2 := hB3.cell 2
      have b3 := hB3.cell 3
      have b4 := hB3.cell 4
      have f0 := hB3.frozen 0
      have f1 := hB3.frozen 1
      have f2 := hB3.frozen 2
      have f3 := hB3.frozen 3
      have f4 := hB3.frozen 4
      simp at a0 a1 a2 a3 a4 b0 b1 b2 b3 b4
      have k3 : w.grownBy w2 none := (Kept.of_grown (F := fun _ => False) kc (fun _ h => by cases h)).trans (Kept.of_grown (F := upTo (fun _ => False) w.heap.size _) k2 (fun g' e => by cases e; exact .inr ⟨by omega, by simp⟩)) |>.grownNone (fun _ _ h => h)
      clear hA2 hB2 hC kc kk k2 hA3
      go_wp2
      refine bodyPost_ret (results_cell_tmp rfl _ _ _ ⟨w.heap.size + 1, 0, none⟩ _ rfl (load5 (hB3.set5 _ _ _ _ _))) rfl ?_
      exact ⟨by first | rfl | (rw [hv]; rfl), grown_set5 k3 (by omega) _ _ _ _ _⟩

def enterE (e v l p f ep : Int) : Nat := if rightB e v l p f = false then 4 else if ep ≤ e ∨ 1073741824 < ep then 18 else 0

set_option maxHeartbeats 4000000 in
theorem enter_is (w : World) (B : Nat) (E : Nat → Addr) (he : ErrEnv w B E) (e v l p f ep : Int) :
    Calls Tryd.prog 25 #[stV e v l p f, .int .i64 ep] w fun en w' => en = .returned (.tuple #[if enterE e v l p f ep = 0 then stV ep 0 0 0 f else stV e v l p f, evOf E (enterE e v l p f ep)]) ∧ w.grownBy w' none := by
  have ka := World.grownBy_alloc w (.cells (stC e v l p f) 23) none
  have kb := grown_trans ka (World.grownBy_alloc _ (.cells (stC 0 0 0 0 0) 23) none)
  have hA := (Blk.new w 23 (stC e v l p f)).alloc (.cells (stC 0 0 0 0 0) 23)
  have hB := Blk.new (w.alloc (.cells (stC e v l p f) 23)) 23 (stC 0 0 0 0 0)
  rw [World.size_alloc] at hB
  by_cases hR : rightB e v l p f = true
  · have hw : decide (ep ≤ e) = true ∨ (decide (ep ≤ e) = false ∧ decide ((1073741824 : Int) < ep) = true) ∨ (decide (ep ≤ e) = false ∧ decide ((1073741824 : Int) < ep) = false) := by
      simp only [decide_eq_true_eq, decide_eq_false_iff_not]; omega
    rcases hw with d | ⟨d, d1⟩ | ⟨d, d1⟩
    · have hv : enterE e v l p f ep = 18 := by simp at d; simp [enterE, hR, d]
      go_enter Tryd.func25, Tryd.ntmps25
      go_wp2_with fail
      refine (right_is _ _ _ _ _ _).mono ?_
      rintro en w1 ⟨rfl, k1⟩
      have gv := ((he.grown kb (by simp)).grown k1 (by simp)).epoch
      have n13 : ¬ 17 = w.heap.size + 1 := far_var he.epoch
      have m13 : ¬ w.heap.size + 1 = 17 := fun e => n13 e.symm
      have hA1 := hA.grown k1 (by simp)
      have hB1 := hB.grown k1 (by simp)
      have a0 := hA1.cell 0
      have a1 := hA1.cell 1
      have a2 := hA1.cell 2
      have a3 := hA1.cell 3
      have a4 := hA1.cell 4
      have b0 := hB1.cell 0
      have b1 := hB1.cell 1
      have b2 := hB1.cell 2
      have b3 := hB1.cell 3
      have b4 := hB1.cell 4
      have f0 := hB1.frozen 0
      have f1 := hB1.frozen 1
      have f2 := hB1.frozen 2
      have f3 := hB1.frozen 3
      have f4 := hB1.frozen 4
      simp at a0 a1 a2 a3 a4 b0 b1 b2 b3 b4
      have kk := grown_trans kb k1
      clear hA hB hA1 k1
      go_wp2_with fail
      go_region
      all_goals
        go_wp2_with fail
        refine bodyPost_ret (results_cell_tmp rfl _ _ _ ⟨w.heap.size + 1, 0, none⟩ _ rfl (load5 (hB1.set5 _ _ _ _ _).drew)) rfl ?_
        exact ⟨by first | rfl | (rw [hv]; rfl), grown_drew (grown_set5 kk (by omega) _ _ _ _ _)⟩
    · have hv : enterE e v l p f ep = 18 := by simp at d1; simp [enterE, hR, d1]
      go_enter Tryd.func25, Tryd.ntmps25
      go_wp2_with fail
      refine (right_is _ _ _ _ _ _).mono ?_
      rintro en w1 ⟨rfl, k1⟩
      have gv := ((he.grown kb (by simp)).grown k1 (by simp)).epoch
      have n13 : ¬ 17 = w.heap.size + 1 := far_var he.epoch
      have m13 : ¬ w.heap.size + 1 = 17 := fun e => n13 e.symm
      have hA1 := hA.grown k1 (by simp)
      have hB1 := hB.grown k1 (by simp)
      have a0 := hA1.cell 0
      have a1 := hA1.cell 1
      have a2 := hA1.cell 2
      have a3 := hA1.cell 3
      have a4 := hA1.cell 4
      have b0 := hB1.cell 0
      have b1 := hB1.cell 1
      have b2 := hB1.cell 2
      have b3 := hB1.cell 3
      have b4 := hB1.cell 4
      have f0 := hB1.frozen 0
      have f1 := hB1.frozen 1
      have f2 := hB1.frozen 2
      have f3 := hB1.frozen 3
      have f4 := hB1.frozen 4
      simp at a0 a1 a2 a3 a4 b0 b1 b2 b3 b4
      have kk := grown_trans kb k1
      clear hA hB hA1 k1
      go_wp2_with fail
      go_region
      all_goals
        go_wp2_with fail
        refine bodyPost_ret (results_cell_tmp rfl _ _ _ ⟨w.heap.size + 1, 0, none⟩ _ rfl (load5 (hB1.set5 _ _ _ _ _).drew)) rfl ?_
        exact ⟨by first | rfl | (rw [hv]; rfl), grown_drew (grown_set5 kk (by omega) _ _ _ _ _)⟩
    · have hv : enterE e v l p f ep = 0 := by simp at d d1; simp [enterE, hR]; omega
      go_enter Tryd.func25, Tryd.ntmps25
      go_wp2_with fail
      refine (right_is _ _ _ _ _ _).mono ?_
      rintro en w1 ⟨rfl, k1⟩
      have hA1 := hA.grown k1 (by simp)
      have hB1 := hB.grown k1 (by simp)
      have a0 := hA1.cell 0
      have a1 := hA1.cell 1
      have a2 := hA1.cell 2
      have a3 := hA1.cell 3
      have a4 := hA1.cell 4
      have b0 := hB1.cell 0
      have b1 := hB1.cell 1
      have b2 := hB1.cell 2
      have b3 := hB1.cell 3
      have b4 := hB1.cell 4
      have f0 := hB1.frozen 0
      have f1 := hB1.frozen 1
      have f2 := hB1.frozen 2
      have f3 := hB1.frozen 3
      have f4 := hB1.frozen 4
      simp at a0 a1 a2 a3 a4 b0 b1 b2 b3 b4
      have kk := grown_trans kb k1
      clear hA hB hA1 k1
      go_wp2_with fail
      refine bodyPost_ret (results_cell_tmp rfl _ _ _ ⟨w.heap.size + 1, 0, none⟩ _ rfl (load5 (hB1.set5 _ _ _ _ _))) rfl ?_
      exact ⟨by first | rfl | (rw [hv]; rfl), grown_set5 kk (by omega) _ _ _ _ _⟩
  · have hR' : rightB e v l p f = false := by simpa using hR
    have hv : enterE e v l p f ep = 4 := by simp [enterE, hR']
    go_enter Tryd.func25, Tryd.ntmps25
    go_wp2_with fail
    refine (right_is _ _ _ _ _ _).mono ?_
    rintro en w1 ⟨rfl, k1⟩
    have gv := ((he.grown kb (by simp)).grown k1 (by simp)).form
    have n13 : ¬ 0 = w.heap.size + 1 := far_var he.form
    have m13 : ¬ w.heap.size + 1 = 0 := fun e => n13 e.symm
    have hA1 := hA.grown k1 (by simp)
    have hB1 := hB.grown k1 (by simp)
    have a0 := hA1.cell 0
    have a1 := hA1.cell 1
    have a2 := hA1.cell 2
    have a3 := hA1.cell 3
    have a4 := hA1.cell 4
    have b0 := hB1.cell 0
    have b1 := hB1.cell 1
    have b2 := hB1.cell 2
    have b3 := hB1.cell 3
    have b4 := hB1.cell 4
    have f0 := hB1.frozen 0
    have f1 := hB1.frozen 1
    have f2 := hB1.frozen 2
    have f3 := hB1.frozen 3
    have f4 := hB1.frozen 4
    simp at a0 a1 a2 a3 a4 b0 b1 b2 b3 b4
    have kk := grown_trans kb k1
    clear hA hB hA1 k1
    go_wp2_with fail
    go_region
    all_goals
      go_wp2_with fail
      refine bodyPost_ret (results_cell_tmp rfl _ _ _ ⟨w.heap.size + 1, 0, none⟩ _ rfl (load5 (hB1.set5 _ _ _ _ _).drew)) rfl ?_
      exact ⟨by first | rfl | (rw [hv]; rfl), grown_drew (grown_set5 kk (by omega) _ _ _ _ _)⟩
end Go.Proofs.YtjmdlpefacbmmaaDoor
