/-
  ScriptLong.
-/
import Derived.Test.YtonkdcbmmdhjgaaDoorScV
import Derived.Test.YtonkdcbmmdhjgaaDoorNum
namespace Go.Proofs.YtonkdcbmmdhjgaaDoor
open Go.RowKit Go.Shelf

def tickM : OpM := ⟨tickV, none, 0, none, 0, none, 0⟩
def dropV (N : Int) : OpV := ⟨2, 0, N, [], [], []⟩
def dropM (N : Int) : OpM := ⟨dropV N, none, 0, none, 0, none, 0⟩
def repN : Nat → Int
  | 0 => 0
  | n + 1 => 10 * repN n + 1
/-- append of an op, as an equation of the run. -/
theorem push6_run (w0 : World) (i : TypeInfo) (z : Value) (hi : Tryd.prog.info? 39 = some i) (hz : i.zero = some z) (hsize : i.size = 6) (hby : i.bytes = 96) (hzs : z.cells.size = 6)
    (base : Nat) (v : Value) (n : Nat) (xs : List Value) (hown : w0.ownsRow base 39 6 v n xs) (o : OpM) (hn : n ≤ 1000000) (hbase : base ≤ w0.heap.size) :
    ∃ v' w', (Builtin.append_ #[23, 23] 23 #[v, .slice (some ⟨w0.heap.size, 0, none⟩) 1 1]).run Tryd.prog (w0.alloc (.cells o.val 39)) = .ok v' w' ∧ w'.ownsRow base 39 6 v' (n + 1) (xs ++ o.val.toList) ∧ w0.grownBy w' v.ownBlock := by
  obtain ⟨v', w', hrun, r1, r2, _⟩ := run_append_own (P := Tryd.prog) (w := w0.alloc (.cells o.val 39)) base 23 23 39 i z 6 96 Tryd.underlying23 hi hz hsize hby hzs (by omega) v n xs (hown.alloc _) ⟨w0.heap.size, 0, none⟩ 1 1 o.val.toList rfl (fun j u hu => by
    have h := (Blk.new w0 39 o.val).cell j
    rw [Go.WideShapes.add_plain, Nat.zero_add, h]
    simpa using hu) (opm_one o) (by simp only [maxLen]; omega) (by omega) (by rw [World.size_alloc]; omega)
  exact ⟨v', w', hrun, r1, grown_trans (World.grownBy_alloc w0 _ _) r2⟩
theorem ticks_text (k : Nat) : (textT (List.replicate k tickV)).length = 7 * k := by
  rw [textT_len, List.map_replicate, line_tick]
  induction k with
  | zero => rfl
  | succ k ih => rw [List.replicate_succ, List.sum_cons, ih]; simp only [List.length_cons, List.length_nil]; omega
theorem rep_digits : ∀ r : Nat, 2 ≤ r → r ≤ 6 → (Lib.itoa (repN r)).length = r ∧ 0 ≤ repN r ∧ repN r ≤ 999999 := by
  intro r h1 h2
  have key : ∀ n : Nat, n ≤ 999999 → (Lib.itoa (n : Int)).length = Lib.nDigits n := fun n _ => by rw [Lib.itoa_nonneg]; exact Lib.decDigits_length n
  have e2 : Lib.nDigits 11 = 2 := by rw [Lib.nDigits_big (by decide), Lib.nDigits_small (by decide)]
  have e3 : Lib.nDigits 111 = 3 := by rw [Lib.nDigits_big (by decide), e2]
  have e4 : Lib.nDigits 1111 = 4 := by rw [Lib.nDigits_big (by decide), e3]
  have e5 : Lib.nDigits 11111 = 5 := by rw [Lib.nDigits_big (by decide), e4]
  have e6 : Lib.nDigits 111111 = 6 := by rw [Lib.nDigits_big (by decide), e5]
  have hr : r = 2 ∨ r = 3 ∨ r = 4 ∨ r = 5 ∨ r = 6 := by omega
  rcases hr with rfl | rfl | rfl | rfl | rfl
  · exact ⟨(key 11 (by decide)).trans e2, by decide, by decide⟩
  · exact ⟨(key 111 (by decide)).trans e3, by decide, by decide⟩
  · exact ⟨(key 1111 (by decide)).trans e4, by decide, by decide⟩
  · exact ⟨(key 11111 (by decide)).trans e5, by decide, by decide⟩
  · exact ⟨(key 111111 (by decide)).trans e6, by decide, by decide⟩
theorem line_drop (N : Int) : lineT (dropV N) = [100, 114, 111, 112, 32] ++ Lib.itoa N := by
  simp [lineT, dropV, shapeS, writeS, joinP]
theorem right_drop {N : Int} (h : 0 ≤ N ∧ N ≤ 999999) : rightS (dropV N) ∧ plainS (dropV N) = dropV N := ⟨⟨by simp [dropV, shapeS], fun c hc => by
  obtain rfl : c = 110 := by simpa [dropV, shapeS] using hc
  exact h⟩, rfl⟩
theorem nil_at (v : OpV) (h1 : v.set = []) (h2 : v.keep = []) (h3 : v.data = []) (w : World) : OpM.At w ⟨v, none, 0, none, 0, none, 0⟩ := ⟨fun h => absurd h1 h, fun h => absurd h2 h, fun h => absurd h3 h⟩
theorem repN_le : ∀ j : Fin 6, 0 ≤ repN j.val ∧ repN j.val ≤ 11111 := by decide
theorem opsC_ticks (k : Nat) (o : OpM) : opsC (List.replicate (k + 1) o) = opsC (List.replicate k o) ++ o.val.toList := by
  rw [List.replicate_succ', opsC_snoc]
theorem more_in {more M : Int} (h : M = wrap64 (wrap64 ((IntKind.u64.wrap more).tmod 9) - 4)) : -4 ≤ M ∧ M ≤ 4 := by
  have h0 : 0 ≤ IntKind.u64.wrap more := by simp only [IntKind.wrap, IntKind.signed, IntKind.bits]; simp; omega
  rw [Int.tmod_eq_emod_of_nonneg h0] at h
  have h1 : 0 ≤ (IntKind.u64.wrap more) % 9 ∧ (IntKind.u64.wrap more) % 9 ≤ 8 := by omega
  generalize (IntKind.u64.wrap more) % 9 = y at h h1
  have e : ∀ z : Int, -100 ≤ z ∧ z ≤ 100 → wrap64 z = z := fun z _ => by unfold wrap64; omega
  rw [e y (by omega), e (y - 4) (by omega)] at h
  omega
set_option maxRecDepth 100000 in
set_option maxHeartbeats 2000000 in
theorem long_is (more : Int) (hmore : i64 more) (w : World) (E : Nat → Addr) (hE : ErrEnv w w.heap.size E) (he : ScEnv w) :
    Calls Tryd.prog 4 #[.int .i64 more] w fun e w' => e = .returned (.bool true) ∧ w.grownBy w' none := by
  have h3 : Env3 w (E 2) (E 3) := ⟨he, hE.var 2 (by omega), hE.var 3 (by omega)⟩
  have HA := Lib.hid (alive_is w he (E 2) (E 3) h3.long h3.form)
  have HE := Lib.hid (And.intro h3 hE)
  clear h3 he hE
  go_enter Tryd.func4, Tryd.ntmps4
  go_wp2_with fail
  refine HA.out.mono ?_
  rintro e w1 ⟨rfl, k1⟩
  have K1 := Lib.hid k1
  clear k1
  go_upto_region 4 with (fail)
  obtain ⟨M, hM⟩ : ∃ M, M = wrap64 (wrap64 ((IntKind.u64.wrap more).tmod 9) - 4) := ⟨_, rfl⟩
  rw [← hM]
  have hMb : -4 ≤ M ∧ M ≤ 4 := more_in hM
  clear hM hmore
  obtain ⟨i0, hi0, hz0, hz1, hz2⟩ := info_parts op_info
  have HI0 := Lib.hid (And.intro hi0 (And.intro hz0 (And.intro hz1 hz2)))
  clear hi0 hz0 hz1 hz2
  go_wp2_with fail
  go_loopw [3, 4] (fun v n wr => ∃ k : Nat, k ≤ 9400 ∧ (k = 0 ∨ 7 * (k : Int) + 7 < 65535 + M) ∧ n = .int .i64 (7 * (k : Int)) ∧ Hid (wr.ownsRow w.heap.size 39 6 v k (opsC (List.replicate k tickM)) ∧ w.grownBy wr none)) (fun _ n _ => 70000 - (intOf n).toNat)
  case atStart =>
    refine ⟨0, Nat.zero_le _, .inl rfl, rfl, Lib.hid ⟨?_, ?_⟩⟩
    · first
        | exact World.ownsRow_nil _ _ _ _
        | exact ⟨rfl, .inr ⟨_, 0, _, rfl, K1.out.size, Blk.new w1 39 #[], Nat.le_refl _, by decide, rfl, rfl⟩⟩
    · first
        | exact grown_trans K1.out (World.grownBy_alloc _ _ none)
        | exact K1.out
  case round =>
    obtain ⟨k, hk, hk7, rfl, HI⟩ := hrel
    rename World => wr
    by_cases hlt : 7 * (k : Int) + 14 < 65535 + M
    · have d1 : decide (7 * (k : Int) + 14 < 65535 + M) = true := by simpa using hlt
      have hrun : ∃ v' w', (Builtin.append_ #[23, 23] 23 #[u3, .slice (some ⟨wr.heap.size, 0, none⟩) 1 1]).run Tryd.prog (wr.alloc (.cells #[.int .i64 4, .int .i64 0, .int .i64 0, .slice none 0 0, .slice none 0 0, .slice none 0 0] 39)) = .ok v' w' ∧ w'.ownsRow w.heap.size 39 6 v' (k + 1) (opsC (List.replicate k tickM) ++ tickM.val.toList) ∧ wr.grownBy w' u3.ownBlock :=
        push6_run wr i0 _ HI0.out.1 HI0.out.2.1 HI0.out.2.2.1 HI0.out.2.2.2 rfl w.heap.size u3 k _ HI.out.1 tickM (by omega) HI.out.2.size
      obtain ⟨v', w3, hrun, hown3, hgrow⟩ := hrun
      have HO3 := Lib.hid hown3
      have HK3 := Lib.hid (grown_own HI.out.2 hgrow HI.out.1 (Nat.le_refl _))
      clear hown3 hgrow
      go_wp2_with (at_builtin
                   refine wpList_plain rfl fun K9 hK9 => wp_append rfl rfl rfl hrun (hK9 _ _ ?_))
      go_roundw
      case rel => exact ⟨k + 1, by omega, .inr (by omega), by congr 1 <;> omega, Lib.hid ⟨by rw [opsC_ticks]; exact HO3.out, HK3.out⟩⟩
      case measure => simp [intOf]; omega
    · have d1 : decide (7 * (k : Int) + 14 < 65535 + M) = false := by simpa using hlt
      obtain ⟨r, hr, hr2, hr8⟩ : ∃ r : Nat, 65535 + M - 7 * (k : Int) - 6 = (r : Int) ∧ 2 ≤ r ∧ r ≤ 8 := ⟨(65535 + M - 7 * (k : Int) - 6).toNat, by omega, by omega, by omega⟩
      go_upto_region 11 with (fail)
      have HR := Lib.hid hr
      have b5 : Blk (wr.alloc (.cells #[.int .i64 2, .int .i64 0, .int .i64 0, .slice none 0 0, .slice none 0 0, .slice none 0 0] 39)) wr.heap.size 39 (dropM (repN 0)).val := Blk.new wr _ _
      obtain ⟨W0, hW0⟩ : ∃ W0, wr.alloc (.cells #[.int .i64 2, .int .i64 0, .int .i64 0, .slice none 0 0, .slice none 0 0, .slice none 0 0] 39) = W0 := ⟨_, rfl⟩
      have HB := Lib.hid (And.intro (show Blk W0 wr.heap.size 39 (dropM (repN 0)).val by rw [← hW0]; exact b5) (show wr.grownBy W0 none by rw [← hW0]; exact World.grownBy_alloc wr _ none))
      rw [hW0]
      clear hr b5 hW0
      have e1 : decide ((r : Int) < 1) = false := by simp; omega
      have e2 : decide ((8 : Int) < (r : Int)) = false := by simp; omega
      by_cases hr6 : 6 < r
      · have e3 : decide ((6 : Int) < (r : Int)) = true := by simp; omega
        go_wp2_with fail
        go_ret
        exact ⟨rfl, grown_trans HI.out.2 HB.out.2⟩
      have e3 : decide ((6 : Int) < (r : Int)) = false := by simp; omega
      go_wp2_with fail
      go_loopw [47] (fun i wl => ∃ j : Nat, j ≤ r ∧ i = .int .i64 (j : Int) ∧ Hid (Blk wl wr.heap.size 39 (dropM (repN j)).val ∧ wr.grownBy wl none)) (fun i _ => r - (intOf i).toNat)
      case atStart => exact ⟨0, Nat.zero_le _, rfl, HB⟩
      case round =>
        obtain ⟨j, hj, rfl, HJ⟩ := hrel
        rename World => wl
        by_cases hjr : j < r
        · have e4 : decide ((j : Int) < (r : Int)) = true := by simp; omega
          obtain ⟨R, hRR⟩ : ∃ R, R = repN j := ⟨_, rfl⟩
          have hRb : 0 ≤ R ∧ R ≤ 11111 := by rw [hRR]; exact repN_le ⟨j, by omega⟩
          have c2 : wl.cell? ⟨wr.heap.size, 2, none⟩ = some (.int .i64 R) := by rw [hRR]; exact HJ.out.1.cell 2
          have f2 := HJ.out.1.frozen 2
          have HRR := Lib.hid hRR
          clear hRR
          go_wp2_with fail
          go_roundw
          case rel =>
            refine ⟨j + 1, by omega, rfl, Lib.hid ⟨?_, grown_cell HJ.out.2 _ (Nat.le_refl _)⟩⟩
            have h := HJ.out.1.set 2 (.int .i64 (10 * R + 1))
            rw [HRR.out] at h ⊢
            exact h
          case measure => simp [intOf]; omega
        · have e4 : decide ((j : Int) < (r : Int)) = false := by simp; omega
          obtain rfl : j = r := by omega
          obtain ⟨R, hRR⟩ : ∃ R, R = repN j := ⟨_, rfl⟩
          have hbx := HJ.out.1
          rw [← hRR] at hbx
          have z0 : wl.cell? ⟨wr.heap.size, 0, none⟩ = some (.int .i64 2) := hbx.cell 0
          have z1 : wl.cell? ⟨wr.heap.size, 1, none⟩ = some (.int .i64 0) := hbx.cell 1
          have z2 : wl.cell? ⟨wr.heap.size, 2, none⟩ = some (.int .i64 R) := hbx.cell 2
          have z3 : wl.cell? ⟨wr.heap.size, 3, none⟩ = some (.slice none 0 0) := hbx.cell 3
          have z4 : wl.cell? ⟨wr.heap.size, 4, none⟩ = some (.slice none 0 0) := hbx.cell 4
          have z5 : wl.cell? ⟨wr.heap.size, 5, none⟩ = some (.slice none 0 0) := hbx.cell 5
          have hown := own_gr HI.out.1 HJ.out.2
          have hgl := grown_trans HI.out.2 HJ.out.2
          have hrun : ∃ v' w', (Builtin.append_ #[23, 23] 23 #[u3, .slice (some ⟨wl.heap.size, 0, none⟩) 1 1]).run Tryd.prog (wl.alloc (.cells #[.int .i64 2, .int .i64 0, .int .i64 R, .slice none 0 0, .slice none 0 0, .slice none 0 0] 39)) = .ok v' w' ∧ w'.ownsRow w.heap.size 39 6 v' (k + 1) (opsC (List.replicate k tickM) ++ (dropM R).val.toList) ∧ wl.grownBy w' u3.ownBlock :=
            push6_run wl i0 _ HI0.out.1 HI0.out.2.1 HI0.out.2.2.1 HI0.out.2.2.2 rfl w.heap.size u3 k _ hown (dropM R) (by omega) hgl.size
          obtain ⟨v', w3, hrun, hown3, hgrow⟩ := hrun
          rw [← opsC_snoc] at hown3
          have HO3 := Lib.hid hown3
          have HK3 := Lib.hid (grown_own hgl hgrow hown (Nat.le_refl _))
          clear hown3 hgrow hown hgl hbx
          obtain ⟨A, c, rfl⟩ := own_slice _ HO3.out
          have hrd := rep_digits j hr2 (by omega)
          rw [← hRR] at hrd
          have hri : ∀ o ∈ (List.replicate k tickM ++ [dropM R]).map (·.v), rightS o ∧ plainS o = o := fun o ho => by
            rw [List.map_append, List.map_replicate] at ho
            rcases List.mem_append.1 ho with ho | ho
            · rw [List.eq_of_mem_replicate ho]; exact right_tick
            · obtain rfl : o = dropV R := by simpa [dropM] using ho
              exact right_drop hrd.2
          have hlen : (List.replicate k tickM ++ [dropM R]).length = k + 1 := by simp
          have htx : ((textT ((List.replicate k tickM ++ [dropM R]).map (·.v))).length : Int) = 65535 + M := by
            rw [List.map_append, List.map_replicate, textT_append, List.length_append]
            have h1 := ticks_text k
            have h2 : (textT ([dropM R].map (·.v))).length = j + 6 := by
              rw [show [dropM R].map (·.v) = [dropV R] from rfl, textT_len, List.map_singleton, line_drop]
              simp [hrd.1]
            have h3 : (textT (List.replicate k (tickM.v))).length = 7 * k := h1
            rw [h2, h3]
            have := HR.out
            omega
          have HE3 := Lib.hid (And.intro (HE.out.1.gr HK3.out) (HE.out.2.grown HK3.out (by simp)))
          have hfit : ∀ o ∈ List.replicate k tickM ++ [dropM R], o.v.Fit := fun o ho => by
            rcases List.mem_append.1 ho with ho | ho
            · rw [List.eq_of_mem_replicate ho]
              exact fit_of right_tick.1 right_tick.2 (by rw [show tickM.v = tickV from rfl, line_tick]; decide)
            · obtain rfl : o = dropM R := by simpa using ho
              exact fit_of (right_drop hrd.2).1 (right_drop hrd.2).2 (by rw [show (dropM R).v = dropV R from rfl, line_drop, List.length_append, hrd.1]; simp only [List.length_cons, List.length_nil]; omega)
          have HT := Lib.hid (text_is w3 HE3.out.1.env (E 2) (E 3) HE3.out.1.long HE3.out.1.form A (k + 1) c (List.replicate k tickM ++ [dropM R]) hlen (opRow_own hlen HO3.out) (fun o ho => by
            rcases List.mem_append.1 ho with ho | ho
            · rw [List.eq_of_mem_replicate ho]; exact nil_at _ rfl rfl rfl _
            · obtain rfl : o = dropM R := by simpa using ho
              exact nil_at _ rfl rfl rfl _) hfit (by omega))
          obtain ⟨os, hos⟩ : ∃ os, os = (List.replicate k tickM ++ [dropM R]).map (·.v) := ⟨_, rfl⟩
          rw [← hos] at HT hri htx
          have HX := Lib.hid (And.intro hri (And.intro htx (show os.length = k + 1 by rw [hos, List.length_map, hlen])))
          clear hri htx hos hlen hrd hRR hfit
          go_wp2_with (at_builtin
                       refine wpList_plain rfl fun K9 hK9 => wp_append rfl rfl rfl hrun (hK9 _ _ ?_))
          refine HT.out.mono ?_
          rintro e w4 ⟨k4, hpost⟩
          rw [if_pos (fun o ho => (HX.out.1 o ho).1)] at hpost
          have HE4 := Lib.hid (And.intro (HE3.out.1.gr k4) (And.intro (HE3.out.2.grown k4 (by simp)) (grown_trans HK3.out k4)))
          clear k4 hrun z0 z1 z2 z3 z4 z5
          by_cases hM : 0 < M
          · have e5 : decide (0 < M) = true := by simpa using hM
            rw [if_pos (by have := HX.out.2.1; omega)] at hpost
            subst hpost
            go_wp2_with fail
            refine (num_err w4 _ E 2 (by omega) HE4.out.2.1).mono ?_
            rintro e w5 ⟨rfl, k5⟩
            have HK5 := Lib.hid (grown_trans HE4.out.2.2 k5)
            clear k5
            go_wp2_with fail
            go_ret
            exact ⟨rfl, HK5.out⟩
          · have e5 : decide (0 < M) = false := by simpa using hM
            rw [if_neg (by have := HX.out.2.1; omega)] at hpost
            subst hpost
            obtain ⟨S, hS⟩ : ∃ S, S = strB (textT os) := ⟨_, rfl⟩
            rw [← hS]
            have hsz : (S.size : Int) = 65535 + M := by rw [hS, strB_size]; exact HX.out.2.1
            have hSl : S.data.toList = textT os := by rw [hS, strB_list]
            have HS := Lib.hid (And.intro hSl hsz)
            have e6 : ((S.size : Int) == 65535 + M) = true := by simpa using hsz
            have hct : ¬ 9223372036854775807 < S.size + 7 := by omega
            clear hsz hS hSl
            go_wp2_with fail
            refine (got_is S w4 HE4.out.1.env (E 2) (E 3) HE4.out.1.long HE4.out.1.form (textT os) HS.out.1 (by have := HX.out.2.1; omega)).mono ?_
            rintro e w5 ⟨k5, hp5⟩
            rw [parseLs_text os (fun o ho => (HX.out.1 o ho).1)] at hp5
            obtain ⟨os', hos', A', c', rfl, _⟩ := hp5
            have hl' : os'.length = k + 1 := by
              have := congrArg List.length hos'
              rw [List.length_map, List.length_map, HX.out.2.2] at this
              exact this
            rw [hl']
            have HE5 := Lib.hid (And.intro (HE4.out.1.gr k5) (And.intro (HE4.out.2.1.grown k5 (by simp)) (grown_trans HE4.out.2.2 k5)))
            clear k5 hos' hl'
            go_wp2_with fail
            obtain ⟨S7, hS7⟩ : ∃ S7, S7 = S ++ ⟨#[116, 105, 99, 107, 32, 48, 10]⟩ := ⟨_, rfl⟩
            rw [← hS7]
            have hz7 : S7.data.toList = textT os ++ [116, 105, 99, 107, 32, 48, 10] := by rw [hS7, cat_data, HS.out.1]
            have hz8 : S7.size = S7.data.toList.length := Array.length_toList.symm
            rw [hz7, List.length_append, show ([116, 105, 99, 107, 32, 48, 10] : List UInt8).length = 7 from rfl] at hz8
            have hz9 : S7.size ≤ 70000 := by have := HX.out.2.1; omega
            have HP := Lib.hid (parseT_is S7 hz9 w5 HE5.out.1.env (E 2) (E 3) HE5.out.1.long HE5.out.1.form)
            refine HP.out.mono ?_
            rintro e w6 ⟨k6, hp6⟩
            rw [hz7, List.length_append, show ([116, 105, 99, 107, 32, 48, 10] : List UInt8).length = 7 from rfl] at hp6
            have hbig : 65535 < (textT os).length + 7 := by have := HX.out.2.1; omega
            rcases hp6 with ⟨_, rfl⟩ | ⟨hn, _⟩ | ⟨hn, _⟩
            · have HE6 := Lib.hid (And.intro (HE5.out.2.1.grown k6 (by simp)) (grown_trans HE5.out.2.2 k6))
              clear k6 hbig hz7 hz8 hz9 hS7
              go_wp2_with fail
              refine (num_err w6 _ E 2 (by omega) HE6.out.1).mono ?_
              rintro e w7 ⟨rfl, k7⟩
              have HK7 := Lib.hid (grown_trans HE6.out.2 k7)
              clear k7
              go_wp2_with fail
              go_ret
              exact ⟨rfl, HK7.out⟩
            · omega
            · omega
end Go.Proofs.YtonkdcbmmdhjgaaDoor
