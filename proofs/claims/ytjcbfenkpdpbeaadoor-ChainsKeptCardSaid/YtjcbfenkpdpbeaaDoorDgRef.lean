/-
  quorateref03.Digits and quoratenum.SameInts.
-/
import Derived.Test.YtjcbfenkpdpbeaaDoorDg3
namespace Go.Proofs.YtjcbfenkpdpbeaaDoor
open Go.RowKit

theorem wpList_append_one_at {P : Program} {w0 : World} {ops : Array Oper} {rest : List Oper} {o : Oper} {a : Act} {Q : Exit → Act → World → Prop} (hgd : o.guard = none) (s x : Operand) (t : TypeId)
    (ho : o.op = .call { callee := .builtin .append, args := #[s, x], argTypes := #[t, t] }) (base : Nat) (e e0 : TypeId) (i : TypeInfo) (ht : P.underlying t = some (.slice e)) (hi : P.info? e = some i) (hz : i.zero = some (.int .i64 0)) (hsize : i.size = 1) (hby : i.bytes = 8)
    (v : Value) (n : Nat) (xs : List Value) (hs : a.eval s = v) (hown : w0.ownsRow base e 1 v n xs) (y : Int) (hx : a.eval x = .slice (some ⟨w0.heap.size, 0, none⟩) 1 1) (hn : n ≤ 1000) (hbase : base ≤ w0.heap.size)
    (h : ∀ v' w', w'.ownsRow base e 1 v' (n + 1) (xs ++ [.int .i64 y]) → w0.grownBy w' v.ownBlock → (v'.ownBlock = v.ownBlock ∨ v'.ownBlock = some (w0.heap.size + 1)) → wpList P ops Q rest (a.put o.dst v') w') : wpList P ops Q (o :: rest) a (w0.alloc (.cells #[.int .i64 y] e0)) := by
  refine wpList_append_own_at _ hgd s x t ho base e i (.int .i64 0) 1 8 ht hi hz hsize hby rfl (by omega) v n xs hs (hown.alloc _) ⟨w0.heap.size, 0, none⟩ 1 1 [.int .i64 y] hx rfl (fun j u hu => ?_) (by simp [Value.oneCell']) (by simp only [maxLen]; omega) (by omega) (by rw [World.size_alloc]; omega) (fun v' w' h1 h2 _ h4 => h v' w' h1 (grown_trans (World.grownBy_alloc w0 _ _) h2) (by rw [World.size_alloc] at h4; exact h4))
  have : j = 0 := by
    have := (List.getElem?_eq_some_iff.1 hu).1
    simp at this
    omega
  subst this
  have h1 := (Blk.new w0 e0 #[.int .i64 y]).cell 0
  rw [addr_zero_add, h1]
  simpa using hu

def units : List Int := [64, 16, 4, 1]

set_option maxRecDepth 100000 in
set_option maxHeartbeats 1000000 in
theorem rdigits_is (w : World) (d : List Int) (hd : d.length = 16) (hr : ∀ z ∈ d, 0 ≤ z ∧ z < 256) : Calls Tryd.prog 24 #[.agg (arrV .u8 d)] w fun e w' =>
    ∃ g cap, e = .returned (.slice (some ⟨g, 0, none⟩) 68 cap) ∧ (∀ j, j < 68 → w'.cell? ⟨g, j, none⟩ = some (.int .i64 ((digitsS d).getD j 0))) ∧ w.heap.size ≤ g ∧ w.grownBy w' none := by
  obtain ⟨ds, hds⟩ : ∃ ds, ds = arrV .u8 d := ⟨_, rfl⟩
  have hsz : ds.size = 16 := by rw [hds, arr_size, hd]
  have HI := Lib.hid (show (Tryd.prog.info? 23).map (·.size) = some ds.size by rw [hsz]; kernel_rfl)
  have HD := Lib.hid (And.intro hds (And.intro hd hr))
  obtain ⟨i0, hi0, hz0, hz1, hz2⟩ := info_parts int_info
  have HI0 := Lib.hid (And.intro hi0 (And.intro hz0 (And.intro hz1 hz2)))
  rw [← hds]
  have hown := World.ownsRow_lit (base := w.heap.size) (e := 3) (size := 1) (w.alloc (.cells ds 23)) #[] 0 (by rw [World.size_alloc]; omega) (by decide) rfl
  have HB1 := Lib.hid ((Blk.new w 23 ds).alloc (.cells #[] 3))
  have HG1 := Lib.hid (grown_trans (World.grownBy_alloc w (.cells ds 23) none) (World.grownBy_alloc _ (.cells #[] 3) none))
  rw [World.size_alloc] at hown
  have HOWN := Lib.hid hown
  clear hds hsz hd hr hi0 hz0 hz1 hz2 hown
  go_enter Tryd.func24, Tryd.ntmps24
  go_wp2_with (refine wpList_load_row rfl 23 _ rfl w.heap.size rfl 23 ds (0, 0) _ HB1.out Tryd.underlying23 rfl HI.out ?_)
  generalize (w.alloc (.cells ds 23)).alloc (.cells #[] 3) = w1 at *
  go_loopw [13, 3, 4] (fun i v z wr => ∃ k : Nat, k ≤ 16 ∧ i = .int .i64 (k : Int) ∧ wr.ownsRow w.heap.size 3 1 v (4 * k) ((digsS (d.take k)).map (Value.int .i64)) ∧ z = .int .i64 (sumD (digsS (d.take k))) ∧ w.grownBy wr none) (fun i _ _ _ => 16 - (intOf i).toNat)
  case atStart => exact ⟨0, by omega, rfl, HOWN.out, rfl, HG1.out⟩
  case round =>
    obtain ⟨k, hk, hi, hown, hz, hK⟩ := hrel
    obtain ⟨I, hI⟩ : ∃ I : Int, I = (k : Int) := ⟨_, rfl⟩
    rw [← hI] at hi
    obtain ⟨S, hS⟩ : ∃ S : Int, S = sumD (digsS (d.take k)) := ⟨_, rfl⟩
    rw [← hS] at hz
    subst hi hz
    have hSr := sumD_range (d.take k)
    rw [← hS, List.length_take, HD.out.2.1, Nat.min_eq_left hk] at hSr
    by_cases hlt : k < 16
    · have d1 : decide (I < 16) = true := by simp; omega
      have hkI : I.toNat = k := by omega
      obtain ⟨c, hc⟩ : ∃ c, c = d.getD k 0 := ⟨_, rfl⟩
      have hcr : 0 ≤ c ∧ c < 256 := by
        rw [hc, List.getD, List.getElem?_eq_getElem (by rw [HD.out.2.1]; exact hlt)]
        exact HD.out.2.2 _ (List.getElem_mem _)
      have kx := index16 wr (I := I) (cs := ds) (v := .int .u8 c) ⟨by omega, by omega⟩ (by rw [HD.out.1, hkI, hc]; exact arr_get (by rw [HD.out.2.1]; exact hlt))
      have hnext := digsS_take d k (by rw [HD.out.2.1]; exact hlt)
      rw [← hc] at hnext
      have hI16 : 0 ≤ I ∧ I < 16 := by omega
      have HK := Lib.hid (And.intro hI (And.intro hlt (And.intro hnext (And.intro hS (And.intro hSr (And.intro hcr hI16))))))
      have HOW := Lib.hid hown
      have HG := Lib.hid hK
      clear hI hlt hnext hS hSr hkI hc hown hK hk hI16
      go_wp2_with fail
      have hU := Blk.new wr 3 (arrV .i64 units)
      have hgU := World.grownBy_alloc wr (.cells (arrV .i64 units) 3) none
      rw [show wr.alloc (.cells #[.int .i64 64, .int .i64 16, .int .i64 4, .int .i64 1] 3) = wr.alloc (.cells (arrV .i64 units) 3) from rfl]
      generalize wr.alloc (.cells (arrV .i64 units) 3) = w2 at *
      have HU := Lib.hid hU
      have HO2 := Lib.hid (own_keep HOW.out hgU)
      have HG2 := Lib.hid (grown_trans HG.out hgU)
      have HLW := Lib.hid hU.lt
      obtain ⟨gu, hgu⟩ : ∃ gu, gu = wr.heap.size := ⟨_, rfl⟩
      have HGU := Lib.hid (show wr.heap.size ≤ gu by rw [hgu]; exact Nat.le_refl _)
      rw [← hgu] at HU HLW ⊢
      clear hU hgU kx hgu
      have HOLT := Lib.hid (show gu < w2.heap.size from HLW.out)
      have HNE := Lib.hid (show ∀ g', u3.ownBlock = some g' → g' ≠ gu from fun g' h => by have := (HOW.out.lt g' h).2; have := HGU.out; omega)
      go_loopw [20, 3, 4] (fun j v z wr => ∃ m : Nat, m ≤ 4 ∧ j = .int .i64 (m : Int) ∧ wr.ownsRow w.heap.size 3 1 v (4 * k + m) ((digsS (d.take k) ++ (dig4 c).take m).map (Value.int .i64)) ∧ z = .int .i64 (S + sumD ((dig4 c).take m)) ∧ w.grownBy wr none ∧ (∀ g', v.ownBlock = some g' → g' ≠ gu) ∧ wr.cell? ⟨gu, 0, none⟩ = some (.int .i64 64) ∧ wr.cell? ⟨gu, 1, none⟩ = some (.int .i64 16) ∧ wr.cell? ⟨gu, 2, none⟩ = some (.int .i64 4) ∧ wr.cell? ⟨gu, 3, none⟩ = some (.int .i64 1)) (fun j _ _ _ => 4 - (intOf j).toNat)
      case atStart => exact ⟨0, by omega, rfl, by simpa using HO2.out, by simp [sumD], HG2.out, HNE.out, HU.out.cell 0, HU.out.cell 1, HU.out.cell 2, HU.out.cell 3⟩
      case round =>
        obtain ⟨m, hm, hj, hown, hz, hK, hne, c0, c1, c2, c3⟩ := hrel
        by_cases hlt : m < 4
        · have hcs : m = 0 ∨ m = 1 ∨ m = 2 ∨ m = 3 := by omega
          clear hlt hm
          have hcr := HK.out.2.2.2.2.2.1
          have hSb := HK.out.2.2.2.2.1
          have hkb := HK.out.2.1
          have r0 : 0 ≤ c / 64 % 4 ∧ c / 64 % 4 ≤ 3 := by omega
          have r1 : 0 ≤ c / 16 % 4 ∧ c / 16 % 4 ≤ 3 := by omega
          have r2 : 0 ≤ c / 4 % 4 ∧ c / 4 % 4 ≤ 3 := by omega
          have r3 : 0 ≤ c % 4 ∧ c % 4 ≤ 3 := by omega
          rcases hcs with rfl | rfl | rfl | rfl
          · obtain ⟨T, hT⟩ : ∃ T : Int, T = S + sumD ((dig4 c).take 0) := ⟨_, rfl⟩
            rw [← hT] at hz
            subst hj hz
            have hTr : 0 ≤ T ∧ T ≤ 300 := by rw [hT]; simp [dig4, sumD]; omega
            have HO := Lib.hid hown
            have HG3 := Lib.hid hK
            have HNe := Lib.hid hne
            have HT := Lib.hid hT
            clear hown hK hne hT
            go_wp2_with (at_builtin; refine wpList_append_one_at rfl _ _ 49 rfl w.heap.size 3 _ i0 Tryd.underlying49 HI0.out.1 HI0.out.2.1 HI0.out.2.2.1 HI0.out.2.2.2 _ _ _ rfl HO.out _ rfl (by omega) HG3.out.size ?_; intro v' w4 hown4 hgrow hat; have HO4 := Lib.hid hown4; have HG4 := Lib.hid (grown_own HG3.out hgrow HO.out (Nat.le_refl _)); have HC4 := Lib.hid (fun i x (h : wr.cell? ⟨gu, i, none⟩ = some x) => hgrow.cell h (by intro e; exact HNe.out gu e.symm rfl)); have HN4 := Lib.hid (show ∀ g', v'.ownBlock = some g' → g' ≠ gu from fun g' h => by (rcases hat with e | e); (exact HNe.out g' (e ▸ h)); (have := Option.some.inj (e.symm.trans h); have := World.block_lt_of_cell? wr _ c0; dsimp only at this; omega)); have HCS := Lib.hid (And.intro c0 (And.intro c1 (And.intro c2 c3))); clear hown4 hgrow hat c0 c1 c2 c3)
            go_wp2_with fail
            go_roundw
            case rel =>
              have e : (digsS (d.take k) ++ (dig4 c).take 1).map (Value.int .i64) = (digsS (d.take k) ++ (dig4 c).take 0).map (Value.int .i64) ++ [.int .i64 (c / 64 % 4)] := by simp [dig4]
              refine ⟨1, by omega, rfl, by rw [e]; exact HO4.out, congrArg _ (by rw [HT.out]; simp [dig4, sumD] <;> omega), HG4.out, HN4.out, HC4.out _ _ HCS.out.1, HC4.out _ _ HCS.out.2.1, HC4.out _ _ HCS.out.2.2.1, HC4.out _ _ HCS.out.2.2.2⟩
            case measure => simp [intOf]
          · obtain ⟨T, hT⟩ : ∃ T : Int, T = S + sumD ((dig4 c).take 1) := ⟨_, rfl⟩
            rw [← hT] at hz
            subst hj hz
            have hTr : 0 ≤ T ∧ T ≤ 300 := by rw [hT]; simp [dig4, sumD]; omega
            have HO := Lib.hid hown
            have HG3 := Lib.hid hK
            have HNe := Lib.hid hne
            have HT := Lib.hid hT
            clear hown hK hne hT
            go_wp2_with (at_builtin; refine wpList_append_one_at rfl _ _ 49 rfl w.heap.size 3 _ i0 Tryd.underlying49 HI0.out.1 HI0.out.2.1 HI0.out.2.2.1 HI0.out.2.2.2 _ _ _ rfl HO.out _ rfl (by omega) HG3.out.size ?_; intro v' w4 hown4 hgrow hat; have HO4 := Lib.hid hown4; have HG4 := Lib.hid (grown_own HG3.out hgrow HO.out (Nat.le_refl _)); have HC4 := Lib.hid (fun i x (h : wr.cell? ⟨gu, i, none⟩ = some x) => hgrow.cell h (by intro e; exact HNe.out gu e.symm rfl)); have HN4 := Lib.hid (show ∀ g', v'.ownBlock = some g' → g' ≠ gu from fun g' h => by (rcases hat with e | e); (exact HNe.out g' (e ▸ h)); (have := Option.some.inj (e.symm.trans h); have := World.block_lt_of_cell? wr _ c0; dsimp only at this; omega)); have HCS := Lib.hid (And.intro c0 (And.intro c1 (And.intro c2 c3))); clear hown4 hgrow hat c0 c1 c2 c3)
            go_wp2_with fail
            go_roundw
            case rel =>
              have e : (digsS (d.take k) ++ (dig4 c).take 2).map (Value.int .i64) = (digsS (d.take k) ++ (dig4 c).take 1).map (Value.int .i64) ++ [.int .i64 (c / 16 % 4)] := by simp [dig4]
              refine ⟨2, by omega, rfl, by rw [e]; exact HO4.out, congrArg _ (by rw [HT.out]; simp [dig4, sumD] <;> omega), HG4.out, HN4.out, HC4.out _ _ HCS.out.1, HC4.out _ _ HCS.out.2.1, HC4.out _ _ HCS.out.2.2.1, HC4.out _ _ HCS.out.2.2.2⟩
            case measure => simp [intOf]
          · obtain ⟨T, hT⟩ : ∃ T : Int, T = S + sumD ((dig4 c).take 2) := ⟨_, rfl⟩
            rw [← hT] at hz
            subst hj hz
            have hTr : 0 ≤ T ∧ T ≤ 300 := by rw [hT]; simp [dig4, sumD]; omega
            have HO := Lib.hid hown
            have HG3 := Lib.hid hK
            have HNe := Lib.hid hne
            have HT := Lib.hid hT
            clear hown hK hne hT
            go_wp2_with (at_builtin; refine wpList_append_one_at rfl _ _ 49 rfl w.heap.size 3 _ i0 Tryd.underlying49 HI0.out.1 HI0.out.2.1 HI0.out.2.2.1 HI0.out.2.2.2 _ _ _ rfl HO.out _ rfl (by omega) HG3.out.size ?_; intro v' w4 hown4 hgrow hat; have HO4 := Lib.hid hown4; have HG4 := Lib.hid (grown_own HG3.out hgrow HO.out (Nat.le_refl _)); have HC4 := Lib.hid (fun i x (h : wr.cell? ⟨gu, i, none⟩ = some x) => hgrow.cell h (by intro e; exact HNe.out gu e.symm rfl)); have HN4 := Lib.hid (show ∀ g', v'.ownBlock = some g' → g' ≠ gu from fun g' h => by (rcases hat with e | e); (exact HNe.out g' (e ▸ h)); (have := Option.some.inj (e.symm.trans h); have := World.block_lt_of_cell? wr _ c0; dsimp only at this; omega)); have HCS := Lib.hid (And.intro c0 (And.intro c1 (And.intro c2 c3))); clear hown4 hgrow hat c0 c1 c2 c3)
            go_wp2_with fail
            go_roundw
            case rel =>
              have e : (digsS (d.take k) ++ (dig4 c).take 3).map (Value.int .i64) = (digsS (d.take k) ++ (dig4 c).take 2).map (Value.int .i64) ++ [.int .i64 (c / 4 % 4)] := by simp [dig4]
              refine ⟨3, by omega, rfl, by rw [e]; exact HO4.out, congrArg _ (by rw [HT.out]; simp [dig4, sumD] <;> omega), HG4.out, HN4.out, HC4.out _ _ HCS.out.1, HC4.out _ _ HCS.out.2.1, HC4.out _ _ HCS.out.2.2.1, HC4.out _ _ HCS.out.2.2.2⟩
            case measure => simp [intOf]
          · obtain ⟨T, hT⟩ : ∃ T : Int, T = S + sumD ((dig4 c).take 3) := ⟨_, rfl⟩
            rw [← hT] at hz
            subst hj hz
            have hTr : 0 ≤ T ∧ T ≤ 300 := by rw [hT]; simp [dig4, sumD]; omega
            have HO := Lib.hid hown
            have HG3 := Lib.hid hK
            have HNe := Lib.hid hne
            have HT := Lib.hid hT
            clear hown hK hne hT
            go_wp2_with (at_builtin; refine wpList_append_one_at rfl _ _ 49 rfl w.heap.size 3 _ i0 Tryd.underlying49 HI0.out.1 HI0.out.2.1 HI0.out.2.2.1 HI0.out.2.2.2 _ _ _ rfl HO.out _ rfl (by omega) HG3.out.size ?_; intro v' w4 hown4 hgrow hat; have HO4 := Lib.hid hown4; have HG4 := Lib.hid (grown_own HG3.out hgrow HO.out (Nat.le_refl _)); have HC4 := Lib.hid (fun i x (h : wr.cell? ⟨gu, i, none⟩ = some x) => hgrow.cell h (by intro e; exact HNe.out gu e.symm rfl)); have HN4 := Lib.hid (show ∀ g', v'.ownBlock = some g' → g' ≠ gu from fun g' h => by (rcases hat with e | e); (exact HNe.out g' (e ▸ h)); (have := Option.some.inj (e.symm.trans h); have := World.block_lt_of_cell? wr _ c0; dsimp only at this; omega)); have HCS := Lib.hid (And.intro c0 (And.intro c1 (And.intro c2 c3))); clear hown4 hgrow hat c0 c1 c2 c3)
            go_wp2_with fail
            go_roundw
            case rel =>
              have e : (digsS (d.take k) ++ (dig4 c).take 4).map (Value.int .i64) = (digsS (d.take k) ++ (dig4 c).take 3).map (Value.int .i64) ++ [.int .i64 (c % 4)] := by simp [dig4]
              refine ⟨4, by omega, rfl, by rw [e]; exact HO4.out, congrArg _ (by rw [HT.out]; simp [dig4, sumD] <;> omega), HG4.out, HN4.out, HC4.out _ _ HCS.out.1, HC4.out _ _ HCS.out.2.1, HC4.out _ _ HCS.out.2.2.1, HC4.out _ _ HCS.out.2.2.2⟩
            case measure => simp [intOf]
        · obtain rfl : m = 4 := by omega
          have ht4 : (dig4 c).take 4 = dig4 c := rfl
          rw [ht4] at hown hz
          obtain ⟨T, hT⟩ : ∃ T : Int, T = S + sumD (dig4 c) := ⟨_, rfl⟩
          rw [← hT] at hz
          subst hj hz
          have HO := Lib.hid hown
          have HG3 := Lib.hid hK
          have HT := Lib.hid hT
          have hI16 := HK.out.2.2.2.2.2.2
          clear hown hK hT hlt hm ht4 hne c0 c1 c2 c3
          go_wp2_with fail
          go_roundw
          case rel =>
            obtain ⟨hI, hlt, hnext, hS, hSr, hcr, _⟩ := HK.out
            refine ⟨k + 1, by omega, by rw [hI]; rfl, ?_, ?_, HG3.out⟩
            · rw [hnext, show 4 * (k + 1) = 4 * k + 4 by omega]; exact HO.out
            · rw [hnext, sumD_append, ← hS, ← HT.out]
          case measure => obtain ⟨hI, hlt, _⟩ := HK.out; simp [intOf]; omega
    · have d1 : decide (I < 16) = false := by simp; omega
      obtain rfl : k = 16 := by omega
      rw [List.take_of_length_le (by rw [HD.out.2.1]; exact Nat.le_refl _)] at hown hS
      have hSr0 : 0 ≤ S ∧ S ≤ 192 := by omega
      have HOW := Lib.hid hown
      have HG := Lib.hid hK
      have HS := Lib.hid (And.intro hS (And.intro hSr hSr0))
      have HLIT := Lib.hid (Blk.new wr 3 (arrV .i64 [S / 64, S / 16 % 4, S / 4 % 4, S % 4]))
      clear hI hlt hown hK hS hSr hk
      go_wp2_with (at_builtin; refine wpList_append_own _ rfl _ _ 49 rfl w.heap.size 3 i0 (.int .i64 0) 1 8 Tryd.underlying49 HI0.out.1 HI0.out.2.1 HI0.out.2.2.1 HI0.out.2.2.2 rfl (by decide) _ _ _ rfl (HOW.out.alloc _) ⟨wr.heap.size, 0, none⟩ 4 4 ([S / 64, S / 16 % 4, S / 4 % 4, S % 4].map (Value.int .i64)) rfl rfl (fun j u hu => by rw [addr_zero_add]; exact (HLIT.out.cell j).trans (by simpa [arrV] using hu)) (by simp [Value.oneCell']) (by simp only [maxLen]; omega) (by omega) (by rw [World.size_alloc]; have := HG.out.size; omega) ?_; intro v' w4 hown4 hgrow _)
      have hfin : w4.ownsRow w.heap.size 3 1 v' 68 ((digitsS d).map (Value.int .i64)) := by
        rw [digitsS, ← HS.out.1, List.map_append, dig4, show S / 64 % 4 = S / 64 by have := HS.out.2.2; omega]
        exact hown4
      obtain ⟨g, cap, rfl, hg, hcell⟩ := own_some hfin (by omega)
      have hG4 := grown_own (grown_trans HG.out (World.grownBy_alloc wr _ none)) hgrow (HOW.out.alloc _) (Nat.le_refl _)
      go_ret
      exact ⟨g, cap, rfl, hcell, hg, hG4⟩
end Go.Proofs.YtjcbfenkpdpbeaaDoor
