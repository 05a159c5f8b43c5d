/-
  Tally, keys of type int: what a tally is in memory; New.
-/
import Derived.Test.YthcilpfcdblmkaaDoorTaCI
import Derived.Test.YthcilpfcdblmkaaDoorVc
import Derived.Deep.RegionHeld3
namespace Go.Proofs.YthcilpfcdblmkaaDoor
open Go.RowKit Go.Shelf

/-- A tally at t, its words in block b, all its blocks in S. -/
def TalI (w : World) (S : Nat → Prop) (t b : Nat) (V : List Vd) (W0 : List (Wd Int)) : Prop :=
  S t ∧ S b ∧ b ≠ t ∧ W0.length = V.length ∧ rightS V = true ∧ keysOk V ∧ WdsI w b W0 ∧ ∃ (A : Option Addr) (c : Nat), Blk w t 73 #[.slice A V.length c, .slice (some ⟨b, 0, none⟩) V.length V.length] ∧ VdsAt w A V ∧ ∀ a, A = some a → S a.block ∧ a.block ≠ b
section
variable {w w' : World} {S F : Nat → Prop} {t b : Nat} {V : List Vd} {W0 : List (Wd Int)}
theorem TalI.kept (h : TalI w S t b V W0) (hk : Kept F w w') (hF : ∀ k, F k → ¬ S k) : TalI w' S t b V W0 := by
  obtain ⟨h1, h2, h3, h4, h5, h6, h7, A, c, h8, h9, h10⟩ := h
  exact ⟨h1, h2, h3, h4, h5, h6, Blk.kept h7 hk (fun h => hF _ h h2), A, c, h8.kept hk (fun h => hF _ h h1), h9.kept hk (fun a e h => hF _ h (h10 a e).1), h10⟩
theorem TalI.grown (h : TalI w S t b V W0) (hg : w.grownBy w' none) : TalI w' S t b V W0 := h.kept (Kept.of_grown (F := fun _ => False) hg fun _ e => by cases e) (fun _ h => h.elim)
theorem TalI.mono {T : Nat → Prop} (h : TalI w S t b V W0) (hS : ∀ k, k < w.heap.size → S k → T k) (hne : V ≠ []) : TalI w T t b V W0 := by
  obtain ⟨h1, h2, h3, h4, h5, h6, h7, A, c, h8, h9, h10⟩ := h
  exact ⟨hS _ h8.lt h1, hS _ (Blk.lt h7) h2, h3, h4, h5, h6, h7, A, c, h8, h9, fun a e => ⟨hS _ (h9.blk a e hne) (h10 a e).1, (h10 a e).2⟩⟩
theorem TalI.len (h : TalI w S t b V W0) : 1 ≤ V.length ∧ V.length ≤ 7 := ⟨(right_powers h.2.2.2.2.1).2.1, (right_powers h.2.2.2.2.1).1⟩
theorem TalI.words (h : TalI w S t b V W0) : w.cell? ⟨t, 1, none⟩ = some (.slice (some ⟨b, 0, none⟩) V.length V.length) := by
  obtain ⟨_, _, _, _, _, _, _, A, c, h8, _⟩ := h
  exact h8.cell 1
end

theorem madeI (n : Nat) (h : n ≤ 7) : ∀ w : World, Sem.run Tryd.prog (Instr.makeSlice 71 (.int .i64 (n : Int)) (.int .i64 (n : Int))) w = .ok (.slice (some ⟨w.heap.size, 0, none⟩) n n) (w.alloc (.cells ((List.replicate n (⟨false, 0, 0⟩ : Wd Int)).flatMap cellI).toArray 77)) := by
  match n, h with
  | 0, _ => intro w; kernel_rfl
  | 1, _ => intro w; kernel_rfl
  | 2, _ => intro w; kernel_rfl
  | 3, _ => intro w; kernel_rfl
  | 4, _ => intro w; kernel_rfl
  | 5, _ => intro w; kernel_rfl
  | 6, _ => intro w; kernel_rfl
  | 7, _ => intro w; kernel_rfl
theorem talI_made (V : List Vd) (hr : rightS V = true) (ok : keysOk V) (n : Nat) (hn : V.length = n) (w2 : World) (M : Array Value) (hM : ((List.replicate n (⟨false, 0, 0⟩ : Wd Int)).flatMap cellI).toArray = M) (A : Option Addr) (c : Nat) (hv : VdsAt w2 A V) {B : Nat} (hb : ∀ a, A = some a → B ≤ a.block) (hB : B ≤ w2.heap.size) :
    TalI ((w2.alloc (.cells M 77)).alloc (.cells #[.slice A n c, .slice (some ⟨w2.heap.size, 0, none⟩) n n] 73)) (fun k => B ≤ k) (w2.heap.size + 1) w2.heap.size V (List.replicate V.length ⟨false, 0, 0⟩) := by
  have g1 := World.grownBy_alloc w2 (.cells M 77) none
  have g2 := World.grownBy_alloc (w2.alloc (.cells M 77)) (.cells #[.slice A n c, .slice (some ⟨w2.heap.size, 0, none⟩) n n] 73) none
  have hlr := (right_powers hr).2.1
  refine ⟨by omega, hB, by omega, by simp, hr, ok, ?_, A, c, ?_, hv.grown (grown_trans g1 g2), fun a e => ⟨hb a e, ?_⟩⟩
  · rw [WdsI, hn, hM]; exact (Blk.new w2 _ M).alloc _
  · have h := Blk.new (w2.alloc (.cells M 77)) 73 #[.slice A n c, .slice (some ⟨w2.heap.size, 0, none⟩) n n]
    rw [World.size_alloc] at h
    rw [hn]; exact h
  · have := hv.blk a e (by rintro rfl; simp at hlr)
    omega
theorem talI_made2 (V : List Vd) (hr : rightS V = true) (ok : keysOk V) (n : Nat) (hn : V.length = n) (w1 w2 : World) (M : Array Value) (hM : ((List.replicate n (⟨false, 0, 0⟩ : Wd Int)).flatMap cellI).toArray = M) (A : Option Addr) (c : Nat) (hv : VdsAt w2 A V) {B : Nat} (hb : ∀ a, A = some a → (w1.alloc (.cells M 77)).heap.size ≤ a.block) (hg : (w1.alloc (.cells M 77)).grownBy w2 none) (hB : B ≤ w1.heap.size) :
    TalI (w2.alloc (.cells #[.slice A n c, .slice (some ⟨w1.heap.size, 0, none⟩) n n] 73)) (fun k => B ≤ k) w2.heap.size w1.heap.size V (List.replicate V.length ⟨false, 0, 0⟩) := by
  have g2 := World.grownBy_alloc w2 (.cells #[.slice A n c, .slice (some ⟨w1.heap.size, 0, none⟩) n n] 73) none
  have hlr := (right_powers hr).2.1
  have hs := hg.size
  simp only [World.size_alloc] at hs hb
  refine ⟨by omega, hB, by omega, by simp, hr, ok, ?_, A, c, ?_, hv.grown g2, fun a e => ⟨by have := hb a e; omega, by have := hb a e; omega⟩⟩
  · rw [WdsI, hn, hM]; exact ((Blk.new w1 _ M).grown hg (by simp)).alloc _
  · rw [hn]; exact Blk.new w2 _ _

set_option maxRecDepth 100000 in
set_option maxHeartbeats 1000000 in
theorem newI_is (w : World) (A : Option Addr) (c B : Nat) (V : List Vd) (es : Addr) (hV : VdsAt w A V) (ok : keysOk V) (hl : V.length < 1000) (he : ErrAt w B 10 es) :
    Calls Tryd.prog 8 #[.slice A V.length c] w fun e w' => w.grownBy w' none ∧ ((rightS V = false ∧ e = .returned (.tuple #[.pointer none, errV es])) ∨
      (rightS V = true ∧ ∃ t b, e = .returned (.tuple #[.pointer (some ⟨t, 0, none⟩), .nilIface]) ∧ TalI w' (fun k => w.heap.size ≤ k) t b V (List.replicate V.length ⟨false, 0, 0⟩))) := by
  have HC := Lib.hid (check_is w A c B V es hV ok hl he)
  have HV := Lib.hid (And.intro hV (And.intro ok hl))
  clear hV ok hl he
  go_enter Tryd.func8, Tryd.ntmps8
  go_wp2_with fail
  refine HC.out.mono ?_
  rintro e w1 ⟨k1, ⟨hr, rfl⟩ | ⟨hr, rfl⟩⟩
  · have K1 := Lib.hid (And.intro k1 hr)
    have hv1 := HV.out.1.grown k1
    have hlr := (right_powers hr).2.1
    have HK := Lib.hid (fun V2 (h : w1.grownBy V2 none) => vclone_is V2 A c V (hv1.grown h) HV.out.2.1 hlr HV.out.2.2)
    clear k1 hr hv1
    obtain ⟨n, hn⟩ : ∃ n, V.length = n := ⟨_, rfl⟩
    have hn7 : n ≤ 7 := by have := (right_powers K1.out.2).1; omega
    have hmk := madeI n hn7
    obtain ⟨M, hM⟩ : ∃ M, ((List.replicate n (⟨false, 0, 0⟩ : Wd Int)).flatMap cellI).toArray = M := ⟨_, rfl⟩
    rw [hM] at hmk
    have HMM := Lib.hid (And.intro hM hn)
    clear hM
    rw [hn] at HK ⊢
    clear hn hn7 hlr
    go_wp2_with fail
    have g0 := grown_drew (World.grownBy.refl w1 none)
    obtain ⟨V2, hV2⟩ : ∃ V2, w1.drew = V2 := ⟨_, rfl⟩
    rw [hV2] at g0
    have HG0 := Lib.hid g0
    clear g0
    refine wp_region_held_drew (S := fun _ => True) (by kernel_rfl) trivial (fun hHeld => ?_)
    rw [hV2]
    refine wpAnyH_take (i := 0) (oi := _) (v := ?va0) rfl (by kernel_rfl) (by kernel_rfl) (by kernel_rfl) (fun _ _ _ h => h) (Or.inl ⟨by rfl, ?hya0⟩) (by assumption) ?resta0
    case hya0 => (intro V hSw; (try dsimp only at hSw); go_simp) <;> with_reducible rfl
    try simp only [Act.put, List.getElem_toArray, List.getElem_cons_succ, List.getElem_cons_zero, List.setIfInBounds_toArray, List.set_cons_zero, List.set_cons_succ]
    refine wpAnyH_take (i := 2) (oi := _) (v := ?va2) rfl (by kernel_rfl) (by kernel_rfl) (by kernel_rfl) (fun _ _ _ h => h) (Or.inl ⟨by rfl, ?hya2⟩) (by assumption) ?resta2
    case hya2 => (intro V hSw; (try dsimp only at hSw); go_simp) <;> with_reducible rfl
    try simp only [Act.put, List.getElem_toArray, List.getElem_cons_succ, List.getElem_cons_zero, List.setIfInBounds_toArray, List.set_cons_zero, List.set_cons_succ]
    refine wpAnyH_take (i := 3) (oi := _) (v := ?va3) rfl (by kernel_rfl) (by kernel_rfl) (by kernel_rfl) (fun _ _ _ h => h) (Or.inl ⟨by rfl, ?hya3⟩) (by assumption) ?resta3
    case hya3 => (intro V hSw; (try dsimp only at hSw); go_simp) <;> with_reducible rfl
    try simp only [Act.put, List.getElem_toArray, List.getElem_cons_succ, List.getElem_cons_zero, List.setIfInBounds_toArray, List.set_cons_zero, List.set_cons_succ]
    refine wpAnyH_ready (rs := [1, 4]) (by kernel_rfl) (by simp) ?_
    refine (AllReadyH.cons (o := _) rfl (fun K9 hK => ?_) (AllReadyH.cons (o := _) rfl (fun K9 hK => ?_) AllReadyH.nil))
    · skip
      go_simp
      refine (HK.out V2 (HG0.out)).mono ?_
      rintro e w2 ⟨A', c', rfl, hv', hc', hb', k2⟩
      have HC2 := Lib.hid (And.intro hv' (And.intro hc' (And.intro hb' k2)))
      clear hv' hc' hb' k2
      go_wp2_with fail
      refine hK.out _ _ trivial (fun hHeld => ?_)
      clear hK K9
      try simp only [Act.put, List.getElem_toArray, List.getElem_cons_succ, List.getElem_cons_zero, List.setIfInBounds_toArray, List.set_cons_zero, List.set_cons_succ]
      refine wpAnyH_ready (rs := [4]) (by kernel_rfl) (by simp) ?_
      refine (AllReadyH.cons (o := _) rfl (fun K9 hK => ?_) AllReadyH.nil)
      go_simp
      refine hK.out _ _ trivial (fun hHeld => ?_)
      clear hK K9
      try simp only [Act.put, List.getElem_toArray, List.getElem_cons_succ, List.getElem_cons_zero, List.setIfInBounds_toArray, List.set_cons_zero, List.set_cons_succ]
      refine wpAnyH_take (i := 5) (oi := _) (v := ?vb5) rfl (by kernel_rfl) (by kernel_rfl) (by kernel_rfl) (fun _ _ _ h => h) (Or.inl ⟨by rfl, ?hyb5⟩) (by assumption) ?restb5
      case hyb5 => (intro V hSw; (try dsimp only at hSw); go_simp) <;> with_reducible rfl
      try simp only [Act.put, List.getElem_toArray, List.getElem_cons_succ, List.getElem_cons_zero, List.setIfInBounds_toArray, List.set_cons_zero, List.set_cons_succ]
      refine wpAnyH_ready (rs := [6]) (by kernel_rfl) (by simp) ?_
      refine (AllReadyH.cons (o := _) rfl (fun K9 hK => ?_) AllReadyH.nil)
      go_simp
      refine hK.out _ _ trivial (fun hHeld => ?_)
      clear hK K9
      try simp only [Act.put, List.getElem_toArray, List.getElem_cons_succ, List.getElem_cons_zero, List.setIfInBounds_toArray, List.set_cons_zero, List.set_cons_succ]
      refine wpAnyH_take (i := 7) (oi := _) (v := ?vb7) rfl (by kernel_rfl) (by kernel_rfl) (by kernel_rfl) (fun _ _ _ h => h) (Or.inl ⟨by rfl, ?hyb7⟩) (by assumption) ?restb7
      case hyb7 => (intro V hSw; (try dsimp only at hSw); go_simp) <;> with_reducible rfl
      try simp only [Act.put, List.getElem_toArray, List.getElem_cons_succ, List.getElem_cons_zero, List.setIfInBounds_toArray, List.set_cons_zero, List.set_cons_succ]
      refine wpAnyH_take (i := 8) (oi := _) (v := ?vb8) rfl (by kernel_rfl) (by kernel_rfl) (by kernel_rfl) (fun _ _ _ h => h) (Or.inl ⟨by rfl, ?hyb8⟩) (by assumption) ?restb8
      case hyb8 => (intro V hSw; (try dsimp only at hSw); go_simp) <;> with_reducible rfl
      try simp only [Act.put, List.getElem_toArray, List.getElem_cons_succ, List.getElem_cons_zero, List.setIfInBounds_toArray, List.set_cons_zero, List.set_cons_succ]
      refine wpAnyH_done (by kernel_rfl) ?_ _
      go_wp2
      refine bodyPost_ret (results_tmp2 rfl _ _ _) rfl ?_
      have hgm := World.grownBy_alloc w2 (.cells M 77) none
      obtain ⟨hv', hc', hb', k2⟩ := HC2.out
      obtain ⟨hM, hn⟩ := HMM.out
      have hg2 : w.grownBy w2 none := grown_trans K1.out.1 (grown_trans HG0.out k2)
      refine ⟨grown_trans (grown_trans hg2 hgm) (World.grownBy_alloc _ _ none), .inr ⟨K1.out.2, _, _, rfl, talI_made V K1.out.2 HV.out.2.1 n hn w2 M hM A' c' hv' (fun a e => ?_) (by have := hg2.size; omega)⟩⟩
      have h1 := hb' a e
      have h2 := K1.out.1.size
      have h3 := HG0.out.size
      omega
    · skip
      go_simp
      refine hK.out _ _ trivial (fun hHeld => ?_)
      clear hK K9
      try simp only [Act.put, List.getElem_toArray, List.getElem_cons_succ, List.getElem_cons_zero, List.setIfInBounds_toArray, List.set_cons_zero, List.set_cons_succ]
      refine wpAnyH_ready (rs := [1]) (by kernel_rfl) (by simp) ?_
      refine (AllReadyH.cons (o := _) rfl (fun K9 hK => ?_) AllReadyH.nil)
      go_simp
      refine (HK.out _ (grown_trans HG0.out (World.grownBy_alloc _ _ none))).mono ?_
      rintro e w2 ⟨A', c', rfl, hv', hc', hb', k2⟩
      have HC2 := Lib.hid (And.intro hv' (And.intro hc' (And.intro hb' k2)))
      clear hv' hc' hb' k2
      go_wp2_with fail
      refine hK.out _ _ trivial (fun hHeld => ?_)
      clear hK K9
      try simp only [Act.put, List.getElem_toArray, List.getElem_cons_succ, List.getElem_cons_zero, List.setIfInBounds_toArray, List.set_cons_zero, List.set_cons_succ]
      refine wpAnyH_take (i := 5) (oi := _) (v := ?vc5) rfl (by kernel_rfl) (by kernel_rfl) (by kernel_rfl) (fun _ _ _ h => h) (Or.inl ⟨by rfl, ?hyc5⟩) (by assumption) ?restc5
      case hyc5 => (intro V hSw; (try dsimp only at hSw); go_simp) <;> with_reducible rfl
      try simp only [Act.put, List.getElem_toArray, List.getElem_cons_succ, List.getElem_cons_zero, List.setIfInBounds_toArray, List.set_cons_zero, List.set_cons_succ]
      refine wpAnyH_ready (rs := [6]) (by kernel_rfl) (by simp) ?_
      refine (AllReadyH.cons (o := _) rfl (fun K9 hK => ?_) AllReadyH.nil)
      go_simp
      refine hK.out _ _ trivial (fun hHeld => ?_)
      clear hK K9
      try simp only [Act.put, List.getElem_toArray, List.getElem_cons_succ, List.getElem_cons_zero, List.setIfInBounds_toArray, List.set_cons_zero, List.set_cons_succ]
      refine wpAnyH_take (i := 7) (oi := _) (v := ?vc7) rfl (by kernel_rfl) (by kernel_rfl) (by kernel_rfl) (fun _ _ _ h => h) (Or.inl ⟨by rfl, ?hyc7⟩) (by assumption) ?restc7
      case hyc7 => (intro V hSw; (try dsimp only at hSw); go_simp) <;> with_reducible rfl
      try simp only [Act.put, List.getElem_toArray, List.getElem_cons_succ, List.getElem_cons_zero, List.setIfInBounds_toArray, List.set_cons_zero, List.set_cons_succ]
      refine wpAnyH_take (i := 8) (oi := _) (v := ?vc8) rfl (by kernel_rfl) (by kernel_rfl) (by kernel_rfl) (fun _ _ _ h => h) (Or.inl ⟨by rfl, ?hyc8⟩) (by assumption) ?restc8
      case hyc8 => (intro V hSw; (try dsimp only at hSw); go_simp) <;> with_reducible rfl
      try simp only [Act.put, List.getElem_toArray, List.getElem_cons_succ, List.getElem_cons_zero, List.setIfInBounds_toArray, List.set_cons_zero, List.set_cons_succ]
      refine wpAnyH_done (by kernel_rfl) ?_ _
      go_wp2
      refine bodyPost_ret (results_tmp2 rfl _ _ _) rfl ?_
      obtain ⟨hv', hc', hb', k2⟩ := HC2.out
      obtain ⟨hM, hn⟩ := HMM.out
      have hg1 : w.grownBy V2 none := grown_trans K1.out.1 HG0.out
      have hgm := World.grownBy_alloc V2 (.cells M 77) none
      refine ⟨grown_trans (grown_trans (grown_trans hg1 hgm) k2) (World.grownBy_alloc _ _ none), .inr ⟨K1.out.2, _, _, rfl, talI_made2 V K1.out.2 HV.out.2.1 n hn V2 w2 M hM A' c' hv' hb' k2 (by have := hg1.size; omega)⟩⟩
  · have K1 := Lib.hid (And.intro k1 hr)
    clear k1 hr
    go_wp2_with fail
    refine bodyPost_ret (results_tmp2 rfl _ _ _) rfl ?_
    exact ⟨K1.out.1, .inl ⟨K1.out.2, rfl⟩⟩
end Go.Proofs.YthcilpfcdblmkaaDoor
