/-
  Slots: Open.
-/
import Derived.Test.YthkjlgjbjjjohaaGreatDoorSlF
namespace Go.Proofs.YthkjlgjbjjjohaaGreatDoor
open Go.RowKit Go.Maps

/-- Of the records found so far and the one in sector k, the one that counts. -/
def selStep (k : Nat) (p st : Option (Nat × List UInt8)) : Option (Nat × List UInt8) :=
  match p with
  | none => st
  | some cx => if cx.1 % 2 ≠ k then st else match st with
    | some c0 => if cx.1 < c0.1 then some c0 else some cx
    | none => some cx
def selK (bb : Nat → List UInt8) : Nat → Option (Nat × List UInt8)
  | 0 => none
  | k + 1 => selStep k (parseS (bb k)) (selK bb k)
def cnO (o : Option (Nat × List UInt8)) : Nat := (o.map (·.1)).getD 0
def rcO (o : Option (Nat × List UInt8)) : List UInt8 := (o.map (·.2)).getD []
theorem SlAt.next {w w' : World} {F : Nat → Prop} {s d b m : Nat} {base : Int} {cn : Nat} {rc : List UInt8} (h : SlAt w s d b m base cn rc) (hk : Kept F w w') (hs : ¬ F s) (hF : ∀ j, F j → w.heap.size ≤ j) : SlAt w' s d b m base cn rc := by
  obtain ⟨hs', A, cap, h1, h2, h4⟩ := h
  exact ⟨hs', A, cap, h1.kept hk hs, h2.low hk hF, h4⟩
theorem Dsk.fresh {w0 w w' : World} {d b m : Nat} {z : DkS} {n : Nat} (h : Dsk w0 w d b m z) (hk : Kept (fun j => w.heap.size ≤ j) w w') : Dsk w0 w' d b m z := by
  have h1 := h.1.1.lt
  have h2 := h.1.2.1.lt
  have h3 : m < w.heap.size := by obtain ⟨D, hD, _⟩ := h.1.2.2.1; exact hD.lt
  exact ⟨h.1.kept hk (by omega), h.2.1.next hk (fun j _ e => by have e : w.heap.size ≤ j := e; have := h.2.1.size; show w0.heap.size ≤ j; omega), h.2.2⟩
theorem parseS_lt {bs : List UInt8} {c : Nat} {x : List UInt8} (h : parseS bs = some (c, x)) : c < 9223372036854775808 := by
  unfold parseS at h
  split at h
  · rename_i hc
    injection h with h
    injection h with h1 h2
    omega
  · cases h
set_option maxRecDepth 100000 in
set_option maxHeartbeats 2000000 in
theorem open_is (w0 w : World) (d b m : Nat) (z : DkS) (h : Dsk w0 w d b m z) (hR : Rounds w0) (E : Nat → Addr) (he : ErrVars [0, 1] w0 w0.heap.size E) (ep ed : Addr) (hep : ErrAt w0 w0.heap.size 6 ep) (hed : ErrAt w0 w0.heap.size 2 ed) (base : Int) (bb : Nat → List UInt8)
    (hbb : 0 ≤ base → base + 2 ≤ (z.syn.length : Int) → ∀ k, k < 2 → (bb k).length = 64 ∧ readS z (base.toNat + k) = intsB (bb k)) :
    Calls Tryz.prog 36 #[.pointer (some ⟨d, 0, none⟩), .int .i64 base] w fun e w' => w.grownBy w' none ∧
      ((¬ (0 ≤ base ∧ base + 2 ≤ (z.syn.length : Int)) ∧ e = .returned (.tuple #[.pointer none, errV (E 0)])) ∨
       ((0 ≤ base ∧ base + 2 ≤ (z.syn.length : Int)) ∧
        ((z.off = true ∧ e = .returned (.tuple #[.pointer none, errV ep])) ∨
         (z.off = false ∧ ((selK bb 2 = none ∧ e = .returned (.tuple #[.pointer none, errV ed])) ∨
           (∃ c x, selK bb 2 = some (c, x) ∧ ∃ s, e = .returned (.tuple #[.pointer (some ⟨s, 0, none⟩), .nilIface]) ∧ SlAt w' s d b m base c x ∧ w.heap.size ≤ s)))))) := by
  obtain ⟨zs, hzs⟩ : ∃ zs : Array Value, zs = (zeroR.map (Value.int .u8)).toArray := ⟨_, rfl⟩
  have hz : ∀ w, Sem.run Tryz.prog (zeroValue 105) w = .ok (.agg zs) w := fun w => by rw [hzs]; exact zero_sec w (by kernel_rfl)
  have hzz : zs.size = 64 := by rw [hzs]; simp [zeroR]
  have hzo : zs.all (·.oneCell') = true := by rw [hzs]; kernel_rfl
  have hzv : secV zeroR = .agg zs := by rw [secV, hzs]
  have HZO := Lib.hid (And.intro hzo hzv)
  clear hzo hzv
  have her : ErrAt w0 w0.heap.size 0 (E 0) := he.var 0 (by simp)
  obtain ⟨N, hN⟩ : ∃ N, z.syn.length = N := ⟨_, rfl⟩
  have hN2 : N ≤ 4096 := by rw [← hN]; exact h.1.2.2.2.2.2.1.2
  have HON := Lib.hid (on_is z h.1 w0.heap.size (E 0) (her.below h.below (Nat.le_refl _)) base)
  rw [hN] at HON hbb ⊢
  have HX := Lib.hid (And.intro h (And.intro hR (And.intro he (And.intro her (And.intro hep (And.intro hed (And.intro hbb (And.intro hzz hN))))))))
  clear h hR he her hep hed hbb hzz hzs hN
  refine (callsIn_wide (n := 9)).1 ?_
  refine callsIn_of_wp Tryz.func36 rfl trivial ?_ rfl
  simp only [Tryz.ntmps36, List.size_toArray, List.length_cons, List.length_nil, Nat.reduceAdd, Nat.reduceSub, Array.replicate_succ, Array.replicate_zero, List.push_toArray, List.append_toArray, List.nil_append, List.cons_append]
  gi_wp2
  refine ⟨trivial, ?_⟩
  refine (callsIn_wide.2 HON.out).mono ?_
  rintro e w1 ⟨g1, ⟨hbad, rfl⟩ | ⟨hok, rfl, hsl⟩⟩
  · have HF := Lib.hid (And.intro g1 hbad)
    clear g1 hbad
    gi_wp2
    exact ⟨rfl, _, results_tmp2S7 rfl _ _ _, HF.out.1, .inl ⟨HF.out.2, rfl⟩⟩
  · obtain ⟨s, hs⟩ : ∃ s, w.heap.size = s := ⟨_, rfl⟩
    rw [hs] at hsl ⊢
    have hb : 0 ≤ base ∧ base < 1000000 := by omega
    have k1 : Kept (fun j => s ≤ j) w w1 := Kept.of_grown g1 (fun _ e => by cases e)
    have H1 := Lib.hid (And.intro k1 (And.intro hsl (And.intro hok hs)))
    clear k1 g1 hsl hok hs
    gi_wp2
    gi_loopw [24, 8] (fun i fd wr => ∃ k : Nat, k ≤ 2 ∧ i = .int .i64 (k : Int) ∧ fd = .bool (selK bb k).isSome ∧ SlAt wr s d b m base (cnO (selK bb k)) (rcO (selK bb k)) ∧ Kept (fun j => s ≤ j) w wr ∧ (0 < k → z.off = false)) (fun i _ _ => 2 - (intOf i).toNat)
    case atStart => exact ⟨0, by omega, rfl, rfl, H1.out.2.1, H1.out.1, fun h => absurd h (Nat.lt_irrefl 0)⟩
    case round =>
      obtain ⟨k, hk2, rfl, rfl, hsa, hkk, hoffk⟩ := hrel
      rename World => wx
      by_cases hlt : k < 2
      · have d1 : decide ((k : Int) < 2) = true := by simp; omega
        have hdx : Dsk w0 wx d b m z := Dsk.fresh (n := 0) HX.out.1 (by rw [H1.out.2.2.2]; exact hkk)
        have hok := H1.out.2.2.1
        obtain ⟨B0, hB0⟩ : ∃ B0 : Nat, base = (B0 : Int) := ⟨base.toNat, by omega⟩
        have hin : B0 + k < z.syn.length := by rw [HX.out.2.2.2.2.2.2.2.2]; omega
        have hrow := HX.out.2.2.2.2.2.2.1 hok.1 hok.2 k hlt
        rw [hB0, Int.toNat_natCast] at hrow
        obtain ⟨bs, hbs⟩ : ∃ bs, bb k = bs := ⟨_, rfl⟩
        rw [hbs] at hrow
        obtain ⟨es, hes⟩ : ∃ es, ((intsB bs).map (Value.int .u8)).toArray = es := ⟨_, rfl⟩
        have hsv : secV (intsB bs) = .agg es := by rw [secV, hes]
        have hez : es.size = 64 := by rw [← hes]; simpa [intsB] using hrow.1
        have heo : es.all (·.oneCell') = true := by rw [← hes]; simp [Array.all_eq_true_iff_forall_mem, Value.oneCell']
        have hrE : rE z (base + (k : Int)) = if z.off then 2 else 0 := by
          rw [hB0, show (B0 : Int) + (k : Int) = ((B0 + k : Nat) : Int) by omega, rE, if_pos (by simp only [inR, decide_eq_true_eq]; omega)]
        have hrV : z.off = false → rV z (base + (k : Int)) = intsB bs := fun ho => by
          rw [hB0, show (B0 : Int) + (k : Int) = ((B0 + k : Nat) : Int) by omega, rV_ok hin ho, hrow.2]
        have hst : selK bb (k + 1) = selStep k (parseS bs) (selK bb k) := by rw [selK, hbs]
        have HD := Lib.hid (And.intro hdx (And.intro hsa (And.intro hkk (And.intro hrow.1 (And.intro hez (And.intro heo (And.intro hsv hst)))))))
        have hr := dsk_read hdx HX.out.2.2.2.1 HX.out.2.2.2.2.1 (base + (k : Int))
        have hbk : base + (k : Int) < 9223372036854775808 := by omega
        clear hdx hsa hkk hok hin hrow hbs hes hsv hez heo hst
        cases ho : z.off with
        | true =>
          have hrz : rV z (base + (k : Int)) = zeroR := by
            rw [hB0, show (B0 : Int) + (k : Int) = ((B0 + k : Nat) : Int) by omega, rV]
            by_cases hi : inR z ((B0 + k : Nat) : Int) = true
            · rw [if_pos hi, if_pos ho]
            · rw [if_neg hi]
          rw [hrE, ho, hrz, HZO.out.2] at hr
          have HR := Lib.hid (And.intro hr ho)
          clear hr hrE hrV ho hB0 hrz
          gi_wp2
          refine ⟨trivial, ?_⟩
          refine (callsIn_wide.2 HR.out.1).mono ?_
          rintro e w2 ⟨rfl, g2⟩
          simp only [if_true, eV]
          have H2 := Lib.hid g2
          clear g2
          gi_wp2_with (first
            | (refine wpListIn_store_row rfl 105 _ _ rfl w2.heap.size zs rfl rfl 105 zs (heap_alloc_new w2 _) (by rw [HX.out.2.2.2.2.2.2.2.1]; kernel_rfl) rfl HZO.out.1 ?_)
            | gi_in)
          exact ⟨rfl, _, results_tmp2S7 rfl _ _ _, by
            have kk : Kept (fun j => s ≤ j) w ((w2.alloc (.cells zs 105)).setRow w2.heap.size zs) := HD.out.2.2.1.next (Kept.of_grown (F := fun _ => False) (grown_row (grown_trans H2.out (World.grownBy_alloc _ _ none)) (.inl H2.out.size) _) fun _ e => by cases e) (fun _ _ h => h.elim)
            exact kk.grownNone (fun j h1 h2 => by have h2 : s ≤ j := h2; have := H1.out.2.2.2; omega), .inr ⟨H1.out.2.2.1, .inl ⟨HR.out.2, rfl⟩⟩⟩
        | false =>
          rw [hrE, ho, hrV ho, HD.out.2.2.2.2.2.2.1] at hr
          have HR := Lib.hid (And.intro hr ho)
          clear hr hrE hrV ho hB0
          gi_wp2
          refine ⟨trivial, ?_⟩
          refine (callsIn_wide.2 HR.out.1).mono ?_
          rintro e w2 ⟨rfl, g2⟩
          simp only [Bool.false_eq_true, if_false, eV]
          have H2 := Lib.hid g2
          clear g2
          gi_wp2_with (first
            | (refine wpListIn_store_row rfl 105 _ _ rfl w2.heap.size es rfl rfl 105 zs (heap_alloc_new w2 _) (by rw [HD.out.2.2.2.2.1]; kernel_rfl) (by rw [HX.out.2.2.2.2.2.2.2.1, HD.out.2.2.2.2.1]) HD.out.2.2.2.2.2.1 ?_)
            | (refine wpListIn_load_row rfl 105 _ rfl w2.heap.size rfl 105 es (0, 0) _ ((Blk.new w2 105 zs).row es) Tryz.underlying105 rfl (by rw [HD.out.2.2.2.2.1]; kernel_rfl) ?_)
            | gi_in)
          obtain ⟨p2, hp2⟩ : ∃ p, w2.heap.size = p := ⟨_, rfl⟩
          obtain ⟨W2, hW2⟩ : ∃ W, (w2.alloc (.cells zs 105)).setRow p2 es = W := ⟨_, rfl⟩
          have gW2 : wx.grownBy W2 none := by rw [← hW2, ← hp2]; exact grown_row (grown_trans H2.out (World.grownBy_alloc _ _ none)) (.inl H2.out.size) _
          rw [hp2, hW2]
          have HW := Lib.hid (And.intro (HD.out.1.grown gW2) (And.intro (HD.out.2.1.grown gW2) (HD.out.2.2.1.next (Kept.of_grown (F := fun _ => False) gW2 fun _ e => by cases e) (fun _ _ h => h.elim))))
          have hps := parse_is W2 w0.heap.size E (HX.out.2.1.kept HW.out.1.2.1 (fun _ h => h)) (HX.out.2.2.1.below HW.out.1.below (Nat.le_refl _)) HW.out.1.2.1.size bs HD.out.2.2.2.1
          rw [HD.out.2.2.2.2.2.2.1] at hps
          have HPS := Lib.hid hps
          clear hps gW2 hp2 hW2
          refine ⟨trivial, ?_⟩
          refine (callsIn_wide.2 HPS.out).mono ?_
          rintro e w3 ⟨g3, ⟨hnone, rfl⟩ | ⟨c, x, hsome, A3, c3, rfl, hb3, hA3⟩⟩
          · have H3 := Lib.hid (And.intro (HW.out.1.grown g3) (And.intro (HW.out.2.1.grown g3) (And.intro (HW.out.2.2.next (Kept.of_grown (F := fun _ => False) g3 fun _ e => by cases e) (fun _ _ h => h.elim)) (show selK bb (k + 1) = selK bb k by rw [HD.out.2.2.2.2.2.2.2, hnone]; rfl))))
            clear g3 hnone
            gi_wp2
            rename_i KK hKK
            refine ⟨trivial, hKK _ _ ?_⟩
            gi_wp2
            all_goals exact ⟨⟨k + 1, by omega, by simp, by rw [H3.out.2.2.2], by rw [H3.out.2.2.2]; exact H3.out.2.1, H3.out.2.2.1, fun _ => by first | exact HR.out.2 | trivial⟩, by simp [intOf]; omega⟩
          · have hc63 := parseS_lt hsome
            have H3 := Lib.hid (And.intro (HW.out.1.grown g3) (And.intro (HW.out.2.1.grown g3) (And.intro (HW.out.2.2.next (Kept.of_grown (F := fun _ => False) g3 fun _ e => by cases e) (fun _ _ h => h.elim)) (And.intro (show selK bb (k + 1) = selStep k (some (c, x)) (selK bb k) by rw [HD.out.2.2.2.2.2.2.2, hsome]) (And.intro hb3 (And.intro (show ∀ ad, A3 = some ad → W2.heap.size ≤ ad.block from hA3) g3))))))
            clear g3 hsome hb3 hA3
            gi_wp2
            refine ⟨trivial, ?_⟩
            refine (callsIn_wide.2 (place_is H3.out.2.1 c hc63 hb)).mono ?_
            rintro e w4 ⟨rfl, hw4⟩
            obtain rfl : w3 = w4 := hw4.symm
            by_cases hpar : c % 2 = k
            · have e1 : (base + ((c % 2 : Nat) : Int) = base + (k : Int)) = True := eq_true (by omega)
              have e1b : (base + ((c % 2 : Nat) : Int) == base + (k : Int)) = true := by rw [beq_iff_eq]; omega
              obtain ⟨P, hP⟩ : ∃ P : Int, base + ((c % 2 : Nat) : Int) = P := ⟨_, rfl⟩
              obtain ⟨Q, hQ⟩ : ∃ Q : Int, base + (k : Int) = Q := ⟨_, rfl⟩
              rw [hP, hQ] at e1 e1b
              rw [hP]
              have HPQ := Lib.hid (And.intro hpar (And.intro hP hQ))
              clear hpar hP
              cases hst : selK bb k with
              | none =>
                have hlt2 : d < s ∧ b < s ∧ m < s := by
                  have h1 := HX.out.1.1.1.lt
                  have h2 := HX.out.1.1.2.1.lt
                  have h3 : m < w.heap.size := by obtain ⟨D, hD, _⟩ := HX.out.1.1.2.2.1; exact hD.lt
                  have := H1.out.2.2.2
                  omega
                have hsW : s < W2.heap.size := by obtain ⟨_, _, _, hq, _⟩ := HW.out.2.1; exact hq.lt
                have hput := SlAt.put (cap := c3) (c := c) H3.out.2.1 H3.out.2.2.2.2.1 (fun ad e _ hf => by have := H3.out.2.2.2.2.2.1 ad e; omega)
                have hkp : Kept (fun j => s ≤ j) w ((w3.setCell ⟨s, 2, none⟩ (.int .i64 (c : Int))).setCell ⟨s, 3, none⟩ (.slice A3 x.length c3)) := (H3.out.2.2.1.set (p := ⟨s, 2, none⟩) (.inl (Nat.le_refl s)) _).set (p := ⟨s, 3, none⟩) (.inl (Nat.le_refl s)) _
                have hsa := H3.out.2.1
                obtain ⟨_, A0, cap0, hq, _⟩ := hsa
                have f2 := hq.frozen 2
                have f3 := hq.frozen 3
                have x2 := hq.cell 2
                have x3 := hq.cell 3
                simp only [List.getElem?_toArray, List.getElem?_cons_zero, List.getElem?_cons_succ] at x2 x3
                have HY := Lib.hid (And.intro (show selK bb (k + 1) = some (c, x) by rw [H3.out.2.2.2.1, hst]; simp [selStep, HPQ.out.1]) (And.intro hput hkp))
                clear hq hput hkp hst hlt2 hsW
                simp only [Option.isSome_none]
                gi_wp2
                all_goals exact ⟨⟨k + 1, by omega, by simp, by rw [HY.out.1]; rfl, by rw [HY.out.1]; exact HY.out.2.1, HY.out.2.2, fun _ => by first | exact HR.out.2 | trivial⟩, by simp [intOf]; omega⟩
              | some c0 =>
                have hlt2 : d < s ∧ b < s ∧ m < s := by
                  have h1 := HX.out.1.1.1.lt
                  have h2 := HX.out.1.1.2.1.lt
                  have h3 : m < w.heap.size := by obtain ⟨D, hD, _⟩ := HX.out.1.1.2.2.1; exact hD.lt
                  have := H1.out.2.2.2
                  omega
                have hsW : s < W2.heap.size := by obtain ⟨_, _, _, hq, _⟩ := HW.out.2.1; exact hq.lt
                have hput := SlAt.put (cap := c3) (c := c) H3.out.2.1 H3.out.2.2.2.2.1 (fun ad e _ hf => by have := H3.out.2.2.2.2.2.1 ad e; omega)
                have hkp : Kept (fun j => s ≤ j) w ((w3.setCell ⟨s, 2, none⟩ (.int .i64 (c : Int))).setCell ⟨s, 3, none⟩ (.slice A3 x.length c3)) := (H3.out.2.2.1.set (p := ⟨s, 2, none⟩) (.inl (Nat.le_refl s)) _).set (p := ⟨s, 3, none⟩) (.inl (Nat.le_refl s)) _
                have hsa := H3.out.2.1
                obtain ⟨_, A0, cap0, hq, _⟩ := hsa
                have f2 := hq.frozen 2
                have f3 := hq.frozen 3
                have x2 := hq.cell 2
                have x3 := hq.cell 3
                simp only [List.getElem?_toArray, List.getElem?_cons_zero, List.getElem?_cons_succ] at x2 x3
                obtain ⟨c1, y1⟩ := c0
                rw [hst] at x2
                replace x2 : w3.cell? ⟨s, 2, none⟩ = some (.int .i64 (c1 : Int)) := x2
                by_cases hlc : c < c1
                · have d3 : decide ((c : Int) < (c1 : Int)) = true := by simp; omega
                  have HY := Lib.hid (And.intro (show selK bb (k + 1) = selK bb k by rw [H3.out.2.2.2.1, hst]; simp [selStep, HPQ.out.1, hlc]) hst)
                  clear hq hput hkp hst hlt2 hsW
                  simp only [Option.isSome_some]
                  gi_wp2
                  all_goals exact ⟨⟨k + 1, by omega, by simp, by rw [HY.out.1, HY.out.2]; rfl, by rw [HY.out.1]; exact H3.out.2.1, H3.out.2.2.1, fun _ => by first | exact HR.out.2 | trivial⟩, by simp [intOf]; omega⟩
                · have d3 : decide ((c : Int) < (c1 : Int)) = false := by simp; omega
                  have HY := Lib.hid (And.intro (show selK bb (k + 1) = some (c, x) by rw [H3.out.2.2.2.1, hst]; simp [selStep, HPQ.out.1, hlc]) (And.intro hput hkp))
                  clear hq hput hkp hst hlt2 hsW
                  simp only [Option.isSome_some]
                  gi_wp2
                  all_goals exact ⟨⟨k + 1, by omega, by simp, by rw [HY.out.1]; rfl, by rw [HY.out.1]; exact HY.out.2.1, HY.out.2.2, fun _ => by first | exact HR.out.2 | trivial⟩, by simp [intOf]; omega⟩
            · have hne : ¬ base + ((c % 2 : Nat) : Int) = base + (k : Int) := by omega
              have hneb : (base + ((c % 2 : Nat) : Int) == base + (k : Int)) = false := by rw [beq_eq_false_iff_ne]; exact hne
              have HY := Lib.hid (show selK bb (k + 1) = selK bb k by rw [H3.out.2.2.2.1]; simp [selStep, hpar])
              obtain ⟨P, hP⟩ : ∃ P : Int, base + ((c % 2 : Nat) : Int) = P := ⟨_, rfl⟩
              obtain ⟨Q, hQ⟩ : ∃ Q : Int, base + (k : Int) = Q := ⟨_, rfl⟩
              rw [hP, hQ] at hne hneb
              rw [hP]
              clear hpar hP
              gi_wp2
              all_goals exact ⟨⟨k + 1, by omega, by simp, by rw [HY.out], by rw [HY.out]; exact H3.out.2.1, H3.out.2.2.1, fun _ => by first | exact HR.out.2 | trivial⟩, by simp [intOf]; omega⟩
      · have d1 : decide ((k : Int) < 2) = false := by simp; omega
        obtain rfl : k = 2 := by omega
        have hoff : z.off = false := hoffk (by omega)
        have HF := Lib.hid (And.intro hsa (And.intro hkk hoff))
        clear hsa hkk hoff
        cases hst : selK bb 2 with
        | none =>
          have HST := Lib.hid hst
          clear hst
          simp only [Option.isSome_none]
          gi_upto_region 17 with fail
          rename_i K8 hK8
          refine wpIn_normal ?_
          have g0 := grown_drew (World.grownBy.refl wx none)
          obtain ⟨V2, hV2⟩ : ∃ V2, wx.drew = V2 := ⟨_, rfl⟩
          rw [hV2] at g0
          have hdx : Dsk w0 wx d b m z := Dsk.fresh (n := 0) HX.out.1 (by rw [H1.out.2.2.2]; exact HF.out.2.1)
          have hed2 := (HX.out.2.2.2.2.2.1.below (hdx.grown g0).below (Nat.le_refl _)).1
          have HG := Lib.hid (And.intro hed2 (HF.out.2.1.next (Kept.of_grown (F := fun _ => False) g0 fun _ e => by cases e) (fun _ _ h => h.elim)))
          clear g0 hdx hed2
          refine wpIn_region_held_wide (S := fun Y => Y.cell? ⟨2, 0, none⟩ = some (errV ed)) (by kernel_rfl) (by kernel_rfl) (by rintro ⟨_, _, h, _⟩; cases h) (by rw [hV2]; exact HG.out.1) (fun hHeld => ?_)
          rw [hV2] at hHeld ⊢
          refine wpAnyH_take (i := 0) (oi := _) (v := ?ve0) rfl (by kernel_rfl) (by kernel_rfl) (by kernel_rfl) (fun _ _ _ h => by cases h.1) (Or.inl ⟨by rfl, ?hye0⟩) (by assumption) ?reste0
          case hye0 => (intro V hSw; (try dsimp only at hSw); go_simp) <;> with_reducible rfl
          try simp only [Act.put, List.getElem_toArray, List.getElem_cons_succ, List.getElem_cons_zero, List.setIfInBounds_toArray, List.set_cons_zero, List.set_cons_succ]
          refine wpAnyH_take (i := 1) (oi := _) (v := ?ve1) rfl (by kernel_rfl) (by kernel_rfl) (by kernel_rfl) (fun _ _ _ h => by cases h.1) (Or.inl ⟨by rfl, ?hye1⟩) (by assumption) ?reste1
          case hye1 => (intro V hSw; (try dsimp only at hSw); go_simp) <;> with_reducible rfl
          try simp only [Act.put, List.getElem_toArray, List.getElem_cons_succ, List.getElem_cons_zero, List.setIfInBounds_toArray, List.set_cons_zero, List.set_cons_succ]
          refine wpAnyH_take (i := 2) (oi := _) (v := ?ve2) rfl (by kernel_rfl) (by kernel_rfl) (by kernel_rfl) (fun _ _ _ h => by cases h.1) (Or.inl ⟨by rfl, ?hye2⟩) (by assumption) ?reste2
          case hye2 => (intro V hSw; (try dsimp only at hSw); go_simp) <;> with_reducible rfl
          try simp only [Act.put, List.getElem_toArray, List.getElem_cons_succ, List.getElem_cons_zero, List.setIfInBounds_toArray, List.set_cons_zero, List.set_cons_succ]
          refine wpAnyH_done (by kernel_rfl) ?_ _
          refine ⟨rfl, hK8 _ _ ?_⟩
          gi_wp2
          exact ⟨rfl, _, results_tmp2S7 rfl _ _ _, HG.out.2.grownNone (fun j h1 h2 => by have h2 : s ≤ j := h2; have := H1.out.2.2.2; omega), .inr ⟨H1.out.2.2.1, .inr ⟨HF.out.2.2, .inl ⟨HST.out, rfl⟩⟩⟩⟩
        | some c0 =>
          have HST := Lib.hid hst
          clear hst
          simp only [Option.isSome_some]
          gi_wp2
          obtain ⟨c1, y1⟩ := c0
          have hsf := HF.out.1
          rw [HST.out] at hsf
          exact ⟨rfl, _, results_tmp2S7 rfl _ _ _, HF.out.2.1.grownNone (fun j h1 h2 => by have h2 : s ≤ j := h2; have := H1.out.2.2.2; omega), .inr ⟨H1.out.2.2.1, .inr ⟨HF.out.2.2, .inr ⟨c1, y1, HST.out, s, rfl, hsf, by rw [H1.out.2.2.2]; exact Nat.le_refl _⟩⟩⟩⟩
end Go.Proofs.YthkjlgjbjjjohaaGreatDoor
