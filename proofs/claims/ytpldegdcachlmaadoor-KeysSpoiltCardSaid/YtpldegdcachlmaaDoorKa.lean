/-
  The chapter's example of layer 5.
-/
import Derived.Test.YtpldegdcachlmaaDoorKx
import Derived.Test.YtpldegdcachlmaaDoorErrA
namespace Go.Proofs.YtpldegdcachlmaaDoor
open Go.RowKit

def digOneK : List Int := 1 :: List.replicate 15 0
theorem oneK_dig : isDig digOneK := ⟨rfl, fun z hz => by simp [digOneK] at hz; omega⟩
set_option maxRecDepth 100000 in
theorem build_oneK (w : World) (es : Array Value) (h : es = arrV .u8 digOneK) : Sem.run Tryd.prog (Instr.build 23 #[(0, .int .u8 1)]) w = .ok (.agg es) w := by
  subst h
  refine run_build w 23 _ _ ?_
  rfl
theorem sig_row (g : Nat) (cs : Array Value) (hs : cs.size = 3) (V : World) (h : Blk V g 30 cs) : Sem.run Tryd.prog (Instr.loadAt 30 (.pointer (some ⟨g, 0, none⟩))) V = .ok (.agg cs) V := by
  have := run_loadAt_mid (P := Tryd.prog) V g 0 30 cs.toList _ (fun j v hv => by rw [Nat.zero_add, h.cell, ← Array.getElem?_toList]; exact hv) Tryd.underlying30 rfl (by rw [Array.length_toList, hs]; exact info3)
  rwa [Array.toArray_toList] at this

set_option maxRecDepth 100000 in
set_option maxHeartbeats 4000000 in
theorem keys_alive (w : World) (hR : Rounds w) (B : Nat) (E : Nat → Addr) (he : ErrEnv w B E) : Calls Tryd.prog 8 #[] w fun e w' => e = .returned (.bool true) ∧ w.grownBy w' none := by
  obtain ⟨Z16, hZ16⟩ : ∃ Z, Z = arrV .u8 zeroC := ⟨_, rfl⟩
  have hz16 : ∀ w, Sem.run Tryd.prog (zeroValue 23) w = .ok (.agg Z16) w := fun w => by rw [hZ16]; exact z16run w
  have hz30 := sigz_run
  obtain ⟨es, hes⟩ : ∃ es, es = arrV .u8 digOneK := ⟨_, rfl⟩
  have HB := Lib.hid (fun V => build_oneK V es hes)
  have S1 := Lib.hid (fun (z : World) (hz : w.grownBy z none) => new_is z (hR.grown hz (by simp)) digOneK oneK_dig es hes)
  have S2 := Lib.hid (fun (z : World) (hz : w.grownBy z none) (kv : Value) => ksign_spent z B (E 4) ((he.grown hz (by simp)).var 4 (by omega)) kv 32 (by omega) Z16)
  have S3 := Lib.hid (fun (z : World) (hz : w.grownBy z none) kb g cap hK hD => ksign_is z (hR.grown hz (by simp)) kb g cap digOneK oneK_dig es (arrV .u8 (rootC digOneK)) hes hK hD 0 (by omega) 0 rfl zeroC zeroC_dig Z16 hZ16)
  have S4 := Lib.hid (fun (z : World) (hz : w.grownBy z none) => num_err z B E 4 (by omega) (he.grown hz (by simp)))
  clear hR he hZ16 hes
  go_enter Tryd.func8, Tryd.ntmps8
  go_wp2_with (refine wpList_build1k rfl 23 0 _ rfl (.int .u8 1) _ rfl (HB.out _) ?_)
  refine (S1.out _ (World.grownBy.refl w none)).mono ?_
  rintro e w1 ⟨kb, g, cap, rfl, _, _, _, hK, hD, _, hk1⟩
  have H1 := Lib.hid (And.intro hK (And.intro hD hk1))
  clear hK hD hk1
  go_wp2_with fail
  refine (S2.out _ H1.out.2.2 _).mono ?_
  rintro e w2 ⟨rfl, hk2⟩
  have H2 := Lib.hid (And.intro (H1.out.1.grown hk2) (And.intro (H1.out.2.1.grown hk2) (grown_trans H1.out.2.2 hk2)))
  clear hk2
  go_wp2_with (first
    | (refine wpList_store_row rfl 30 _ _ rfl w2.heap.size sigZ rfl rfl 30 _ (heap_alloc_new w2 _) (by exact info3) rfl (by simp [sigZ, Value.oneCell']) ?_
       obtain ⟨w3, hw3⟩ : ∃ w3, w3 = (w2.alloc (.cells sigZ 30)).setRow w2.heap.size sigZ := ⟨_, rfl⟩
       rw [← hw3]
       have H3 := Lib.hid (show KeyAt w3 kb es (.slice (some ⟨g, 0, none⟩) 32 cap) (arrV .u8 (rootC digOneK)) ∧ DigsAt w3 g 0 (leavesC digOneK) ∧ w.grownBy w3 none from by
         have g3 : w2.grownBy w3 none := by rw [hw3]; exact grown_row (World.grownBy_alloc w2 _ none) (.inl (Nat.le_refl _)) _
         exact ⟨H2.out.1.grown g3, H2.out.2.1.grown g3, grown_trans H2.out.2.2 g3⟩)
       clear hw3))
  refine (S3.out _ H3.out.2.2 kb g cap H3.out.1 H3.out.2.1).mono ?_
  rintro e w4 ⟨b, p, pc, rfl, _, _, _, _, hk4⟩
  have H4 := Lib.hid (grown_trans H3.out.2.2 hk4)
  clear hk4
  go_wp2_with (first
    | (refine wpList_store_row rfl 30 _ _ rfl w4.heap.size (sigV 0 (.slice (some ⟨b, 0, none⟩) 68 68) (.slice (some ⟨p, 0, none⟩) 5 pc)) rfl rfl 30 _ (heap_alloc_new w4 _) (by rw [sigV_size]; exact info3) (by rw [sigV_size]; rfl) (sigV_one _ _ _ _ _ _ _) ?_
       obtain ⟨w5, hw5⟩ : ∃ w5, w5 = (w4.alloc (.cells sigZ 30)).setRow w4.heap.size (sigV 0 (.slice (some ⟨b, 0, none⟩) 68 68) (.slice (some ⟨p, 0, none⟩) 5 pc)) := ⟨_, rfl⟩
       obtain ⟨qb, hqb⟩ : ∃ qb, qb = w4.heap.size := ⟨_, rfl⟩
       rw [← hw5, ← hqb]
       have H5 := Lib.hid (show Blk w5 qb 30 (sigV 0 (.slice (some ⟨b, 0, none⟩) 68 68) (.slice (some ⟨p, 0, none⟩) 5 pc)) ∧ w.grownBy w5 none from by
         rw [hw5, hqb]
         exact ⟨(Blk.new w4 30 sigZ).row _, grown_trans H4.out (grown_row (World.grownBy_alloc w4 _ none) (.inl (Nat.le_refl _)) _)⟩)
       clear hw5 hqb))
  refine (S4.out _ H5.out.2).mono ?_
  rintro e w6 ⟨rfl, hk6⟩
  have HG6 := Lib.hid (grown_trans H5.out.2 hk6)
  have c1' := (H5.out.1.grown hk6 (by simp)).cell 1
  simp only [sigV, List.getElem?_toArray, List.getElem?_cons_zero, List.getElem?_cons_succ] at c1'
  clear hk6
  go_wp2_with fail
  go_ret
  exact ⟨rfl, HG6.out⟩
end Go.Proofs.YtpldegdcachlmaaDoor
