/-
  Several texts in one: TrW, Sm, TrH.
-/
import Derived.Test.YthkjlgjbjjjohaaGreatDoorTrT2
import Derived.Test.YthkjlgjbjjjohaaGreatDoorTrT3
import Derived.Deep.MidRow
import Derived.Test.YthkjlgjbjjjohaaGreatDoorDiA
import Derived.Test.YthkjlgjbjjjohaaGreatDoorBaseA
/-
  trees.Path.
-/
namespace Go.Proofs.YthkjlgjbjjjohaaGreatDoor
open Go.RowKit Go.Shelf

attribute [local go_sem] Oper.semAt_some

/-- The row of the way up, in the box of a variable. -/
def WayIn (W : World) (B base : Nat) (n : Nat) (L : List Value) : Prop := ∃ v, Boxed W B 71 v ∧ W.ownsRow base 23 16 v n L ∧ True
theorem way_own {B0 : Nat} (B base : Nat) (f : Nat → Array Value) : OwnFrom B0 (fun (pre : List Lev) W => WayIn W B base pre.length (rowV f pre.length)) :=
  (holdsRow_own base B 71 23 16 (fun pre : List Lev => pre.length) (fun pre => rowV f pre.length) (fun _ _ => True)).from _
theorem way_own5 {B0 : Nat} (B base : Nat) (f : Nat → Array Value) : OwnFrom B0 (fun (_ : List Lev) W => WayIn W B base 5 (rowV f 5)) :=
  (holdsRow_own base B 71 23 16 (fun _ : List Lev => 5) (fun _ => rowV f 5) (fun _ _ => True)).from _
/-- What a variable holds lies elsewhere. -/
def Aside (W : World) (B g : Nat) : Prop := ∃ v, Boxed W B 71 v ∧ v.ownBlock ≠ some g
theorem aside_own {β : Type} {B0 : Nat} (B g : Nat) : OwnFrom B0 (fun (_ : β) W => Aside W B g) := fun _ _ _ _ hs hg hr => by
  obtain ⟨v, h1, h2⟩ := hs
  exact ⟨v, (grownBy_keeps_cells hg (fun r e => (hr r e).2) h1 rfl).trans h1, h2⟩
theorem sib_lt {i k : Nat} (hi : i < 32) (hk : k < 5) : sib (i / 2 ^ k) < 32 / 2 ^ k := by
  have : k = 0 ∨ k = 1 ∨ k = 2 ∨ k = 3 ∨ k = 4 := by omega
  unfold sib
  rcases this with rfl | rfl | rfl | rfl | rfl <;> simp <;> split <;> omega
theorem half_lt {i k : Nat} (hi : i < 32) : i / 2 ^ k < 32 := Nat.lt_of_le_of_lt (Nat.div_le_self _ _) hi

theorem results_tmp2 {fn : Func} {s u : Tmp} (h : fn.results = #[.tmp s, .tmp u]) (tmps : Array Value) (P : Program) (w : World) : (results fn tmps).run P w = .ok (.tuple #[tmps.getD s undef, tmps.getD u undef]) w := by
  simp [results, h]

set_option maxRecDepth 100000 in
set_option maxHeartbeats 4000000 in
theorem path_ok (w : World) (hR : Rounds w) (b off c : Nat) (ps : List (List Int)) (hl : ps.length = 32) (hps : ∀ p ∈ ps, isDig p) (hD : DigsAt w b off ps) (i : Nat) (hi : i < 32) (iv : Int) (hiv : iv = (i : Int)) :
    Calls Tryz.prog 121 #[.slice (some ⟨b, off, none⟩) 32 c, .int .i64 iv] w fun e w' => ∃ g cap, e = .returned (.tuple #[.slice (some ⟨g, 0, none⟩) 5 cap, .nilIface]) ∧ 5 ≤ cap ∧ w.heap.size ≤ g ∧ w'.there g 0 (5 * 16) ∧ (∀ k, k < 5 → w'.rangeAt g (0 + k * 16) (wayV ps i k).toList) ∧ w.grownBy w' none := by
  have hbw := (digs_block hps hD (by omega)).1
  obtain ⟨i0, hi0, hz0, hz1, hz2⟩ := info_parts info16p
  have HI0 := Lib.hid (And.intro hi0 (And.intro hz0 (And.intro hz1 hz2)))
  have HN := Lib.hid (And.intro hl (And.intro hps (And.intro hi (And.intro hR (And.intro hD hbw)))))
  have HIV := Lib.hid hiv
  have hlf : 0 ≤ iv ∧ iv < 32 := by omega
  have HLF := Lib.hid hlf
  clear hl hps hi hR hD hbw hi0 hz0 hz1 hz2 hiv hlf
  refine (callsIn_wide (n := 6)).1 ?_
  refine callsIn_of_wp_marks Tryz.func121 rfl trivial ?_ rfl
  simp only [Tryz.ntmps121, List.size_toArray, List.length_cons, List.length_nil, Nat.reduceAdd, Nat.reduceSub, Array.replicate_succ, Array.replicate_zero, List.push_toArray, List.append_toArray, List.nil_append, List.cons_append]
  gi_wp2
  refine ⟨trivial, ?_⟩
  refine (callsIn_wide.2 (leaf_yes _ iv HLF.out)).mono ?_
  rintro e w1 ⟨rfl, rfl⟩
  gi_wp2
  refine ⟨trivial, ?_⟩
  refine (levels_in _ _ _ _ _ _ rfl).mono ?_
  rintro e w1 ⟨rfl, rfl⟩
  gi_wp2
  have c3 := (Blk.new w 3 #[.int .i64 iv]).alloc (.cells #[.slice none 0 0] 71)
  have c6 := Blk.new (w.alloc (.cells #[.int .i64 iv] 3)) 71 #[.slice none 0 0]
  have c7 := Blk.new ((w.alloc (.cells #[.int .i64 iv] 3)).alloc (.cells #[.slice none 0 0] 71)) 71 #[.slice (some ⟨b, off, none⟩) 32 c]
  simp only [World.size_alloc] at c6 c7
  have d3 := c3.alloc (.cells #[.slice (some ⟨b, off, none⟩) 32 c] 71)
  have d6 := c6.alloc (.cells #[.slice (some ⟨b, off, none⟩) 32 c] 71)
  have hg0 : w.grownBy (((w.alloc (.cells #[.int .i64 iv] 3)).alloc (.cells #[.slice none 0 0] 71)).alloc (.cells #[.slice (some ⟨b, off, none⟩) 32 c] 71)) none := grown_trans (grown_trans (World.grownBy_alloc w _ none) (World.grownBy_alloc _ _ none)) (World.grownBy_alloc _ _ none)
  obtain ⟨W0, hW0⟩ : ∃ W0, (((w.alloc (.cells #[.int .i64 iv] 3)).alloc (.cells #[.slice none 0 0] 71)).alloc (.cells #[.slice (some ⟨b, off, none⟩) 32 c] 71)) = W0 := ⟨_, rfl⟩
  have hsz : W0.heap.size = w.heap.size + 3 := by rw [← hW0]; simp
  rw [hW0] at hg0 d3 d6 c7 ⊢
  clear c3 c6 hW0
  have hRl := HN.out.2.2.2.1.lt
  refine wpIn_rangeFunc_told rfl (by omega) (gf := 108) (lb := #[.pointer (some ⟨w.heap.size + 1 + 1, 0, none⟩)]) rfl trivial (enters_of Tryz.func108 (by kernel_rfl) rfl)
    (levels_seq 5 (by omega) (w.heap.size + 1 + 1) b off c ps HN.out.1 HN.out.2.1 W0 (HN.out.2.2.2.1.grown hg0 (by simp)) c7 (HN.out.2.2.2.2.1.grown hg0)) (fun h1 h2 => KpL.trans h1 h2)
    (fun x W l o o' hl ho hc _ => KpL.put (by omega) ho hc) PhiL.mono (Below.refl _ _) (fun _ => rfl)
    (fun pre W => Blk W w.heap.size 3 #[.int .i64 iv] ∧ (WayIn W (w.heap.size + 1) (w.heap.size + 3) pre.length (rowV (wayV ps i) pre.length) ∧ (W0.grownBy W (some (w.heap.size + 1)) ∧ pre.length ≤ 5)))
    (fun c' _ W => c' = .exit 0 ∧ (WayIn W (w.heap.size + 1) (w.heap.size + 3) 5 (rowV (wayV ps i) 5) ∧ W0.grownBy W (some (w.heap.size + 1))))
    (OwnFrom.and (ownFrom_blk _) (OwnFrom.and (way_own _ _ _) (OwnFrom.and (ownFrom_grownr (Nat.le_refl _)) (ownFrom_pure _))))
    (fun c' => OwnFrom.and (ownFrom_pure _) (OwnFrom.and (way_own5 _ _ _) (ownFrom_grownr (Nat.le_refl _))))
    ⟨d3, ⟨_, d6, World.ownsRow_nil _ _ _ _, trivial⟩, World.grownBy.refl _ _, by simp⟩
    (fun pre x a' W => (a' = { tmps := #[.slice (some ⟨b, off, none⟩) 32 c, .int .i64 iv, undef, .pointer (some ⟨w.heap.size, 0, none⟩), .slice none 0 0, .nilIface, .pointer (some ⟨w.heap.size + 1, 0, none⟩), .int .i64 (x.k : Int), .slice (some ⟨x.g, x.o, none⟩) x.n x.c, .slice (some ⟨b, off, none⟩) 32 c, .int .i64 32, .bool false, undef, .int .i64 iv, .bool true, .bool false, undef, .slice (some ⟨b, off, none⟩) 32 c, .func (.func 108) #[] #[.pointer (some ⟨w.heap.size + 1 + 1, 0, none⟩)], .int .i64 (x.k : Int), .slice (some ⟨x.g, x.o, none⟩) x.n x.c, undef, undef, undef, undef, undef, undef, undef, undef, undef, undef, undef, undef, undef], defers := [] } ∧ x.k = pre.length ∧ x.k ≤ 5 ∧ x.n = 32 / 2 ^ x.k ∧ x.g ≠ w.heap.size + 1) ∧ (DigsAt W x.g x.o (levC ps x.k x.n) ∧ Aside W (w.heap.size + 1) x.g))
    (fun pre x a' => OwnFrom.and (ownFrom_pure _) (OwnFrom.and digs_abide (aside_own _ _))) ?assign ?body ?done ?stop
  case assign =>
    rintro l pre ⟨k, n, g, o, c2⟩ W K ⟨hB, hE, hG, hlen⟩ ⟨h1, h2, h3, h4, h5⟩ hK
    have hgn : g ≠ w.heap.size + 1 ∧ Aside W (w.heap.size + 1) g := by
      have h32 := HN.out.2.2.2.2.2
      obtain ⟨v, hbx, hown, _⟩ := hE
      rcases h5 with h5 | ⟨h5, U, ⟨_, ⟨v', hbx', hown', _⟩, _⟩, hUW, hUg⟩
      · simp only at h5
        refine ⟨by omega, v, hbx, fun e => ?_⟩
        have := (hown.lt g e).1
        omega
      · simp only at h5 hUg
        refine ⟨by omega, v', hbx'.kept hUW (by simp), fun e => ?_⟩
        have := (hown'.lt g e).2
        omega
    have HK := Lib.hid (hK _ W ((keeps_grown (World.grownBy.refl W none)).from _) (KpL.grown (World.grownBy.refl W none) (by simp) (by simp)) ⟨hB, hE, hG, hlen⟩ ⟨⟨rfl, h1, h2, h3, hgn.1⟩, h4, hgn.2⟩)
    clear hK hB hE hG hlen h1 h2 h3 h4 h5 hgn
    simp only [levE]
    gi_wp2
    exact HK.out
  case body =>
    rintro l pre ⟨k, n, g, o, c2⟩ a' W hl0 hl1 ⟨hB, hE, hG, hlen⟩ ⟨⟨rfl, hk, hk5, hn, hgn⟩, hDk, hAs⟩
    simp only at hk hk5 hn hgn hDk hAs
    obtain ⟨I, hI⟩ : ∃ I : Int, I = (k : Int) := ⟨_, rfl⟩
    simp only [← hI]
    by_cases hlt : k < 5
--BODY0
    · obtain ⟨v, hbx, hown, _⟩ := hE
      obtain ⟨A1, cap1, rfl⟩ := own_slice _ hown
      obtain ⟨q, hq⟩ : ∃ q : Nat, q = sib (i / 2 ^ k) := ⟨_, rfl⟩
      have hqn : q < n := by rw [hq, hn]; exact sib_lt HN.out.2.2.1 hlt
      obtain ⟨Y, hY⟩ : ∃ Y : Int, Y = (q : Int) := ⟨_, rfl⟩
      have hx : bits .xor .i64 (iv / 2 ^ I.toNat) 1 = Y := by
        have h1 := i64_xor1 ⟨i / 2 ^ k, half_lt HN.out.2.2.1⟩
        rw [HIV.out, hI, Int.toNat_natCast, hY, hq, ← h1]
        simp
      obtain ⟨fs, hfs⟩ : ∃ fs, fs = wayV ps i k := ⟨_, rfl⟩
      have hf16 : fs.size = 16 := by rw [hfs]; exact wayV_size HN.out.2.1 _ _
      obtain ⟨el, hel⟩ : ∃ el, el = fs.toList := ⟨_, rfl⟩
      have hr : W.rangeAt g (o + Y.toNat * 16) el := by
        have h1 := hDk q (by rw [levC_length]; exact hqn)
        rw [levC_get hqn] at h1
        rw [hel, hfs, wayV, wayC, ← hq, hY, Int.toNat_natCast]
        exact h1
      have hag : some g ≠ (Value.slice A1 pre.length cap1).ownBlock := by
        obtain ⟨v', hb', hv'⟩ := hAs
        have e := hbx.symm.trans hb'
        injection e with e
        injection e with e
        have e : (Value.slice A1 pre.length cap1) = v' := by injection e with e; injection e
        rw [e]; exact fun e => hv' e.symm
      have hb0 : 0 ≤ Y ∧ Y < (n : Int) := by omega
      have hI5 : 0 ≤ I ∧ I ≤ 64 := by omega
      have d5 : (I == 5) = false := by simp; omega
      have hHI : (Tryz.prog.info? 23).map (·.size) = some el.length := by rw [hel, Array.length_toList, hf16]; exact info16
      have HF := Lib.hid (And.intro hf16 (And.intro (show (fs.all fun v => v.oneCell') = true by rw [hfs]; exact arr_one _ _) (And.intro hfs (And.intro hHI (show el.toArray = fs by rw [hel, Array.toArray_toList])))))
      have HBS := Lib.hid (show ∀ V : World, Sem.run Tryz.prog (Instr.buildSlice 71 1 #[(0, .agg el.toArray)]) V = .ok (.slice (some ⟨V.heap.size, 0, none⟩) 1 1) (V.alloc (.cells fs 23)) from fun V => by
        rw [HF.out.2.2.2.2]
        exact run_slice_one V 71 23 fs Tryz.underlying71 (by rw [hf16]; exact info16) (by rw [hf16]; kernel_rfl) (by omega) (by omega))
      have HB := Lib.hid (And.intro hB (And.intro hbx (And.intro hown (And.intro hG (And.intro hlen (And.intro hag (And.intro hgn (And.intro hk (And.intro hlt hr)))))))))
      have SH := Lib.hid (show ∀ V row, W.grownBy V row → row ≠ some w.heap.size → some g ≠ row → V.cell? ⟨w.heap.size, 0, none⟩ = some (.int .i64 iv) ∧ V.rangeAt g (o + Y.toNat * 16) el from fun V row hV h1 h2 => ⟨((hB.grown hV (fun e => h1 e.symm)).cell 0).trans rfl, range_to hr hV h2⟩)
      clear hB hbx hown hG hlen hag hgn hk hlt hr hq hqn hY hfs hf16 hel hHI hI hk5 hn hDk hAs hl0 hl1
      gi_wp2
      refine wpIn_region_held_round (S := fun V => V.cell? ⟨w.heap.size, 0, none⟩ = some (.int .i64 iv) ∧ V.rangeAt g (o + Y.toNat * 16) el) (by kernel_rfl) (by kernel_rfl) (by rintro ⟨_, _, h⟩; exact h) (SH.out _ none (grown_drew (World.grownBy.refl W none)) (by simp) (by simp)) (fun hHeld => ?_)
      refine wpAnyH_take (i := 1) (oi := _) (v := ?v1p) rfl (by kernel_rfl) (by kernel_rfl) (by kernel_rfl) (fun _ _ _ h => h) (Or.inl ⟨by rfl, ?hy1p⟩) (by assumption) ?rest1p
      case hy1p => (intro V hSw; (try dsimp only at hSw); go_simp) <;> with_reducible rfl
      simp only [Act.put, List.getElem_toArray, List.getElem_cons_succ, List.getElem_cons_zero, List.setIfInBounds_toArray, List.set_cons_zero, List.set_cons_succ]
      refine wpAnyH_take (i := 2) (oi := _) (v := ?v2p) rfl (by kernel_rfl) (by kernel_rfl) (by kernel_rfl) (fun _ _ _ h => h) (Or.inl ⟨by rfl, ?hy2p⟩) (by assumption) ?rest2p
      case hy2p => (intro V hSw; (try dsimp only at hSw); go_simp) <;> with_reducible rfl
      simp only [Act.put, List.getElem_toArray, List.getElem_cons_succ, List.getElem_cons_zero, List.setIfInBounds_toArray, List.set_cons_zero, List.set_cons_succ]
      refine wpAnyH_take (i := 3) (oi := _) (v := ?v3p) rfl (by kernel_rfl) (by kernel_rfl) (by kernel_rfl) (fun _ _ _ h => h) (Or.inl ⟨by rfl, ?hy3p⟩) (by assumption) ?rest3p
      case hy3p => (intro V hSw; (try dsimp only at hSw); go_simp) <;> with_reducible rfl
      simp only [Act.put, List.getElem_toArray, List.getElem_cons_succ, List.getElem_cons_zero, List.setIfInBounds_toArray, List.set_cons_zero, List.set_cons_succ]
      refine wpAnyH_take (i := 4) (oi := _) (v := ?v4p) rfl (by kernel_rfl) (by kernel_rfl) (by kernel_rfl) (fun _ _ _ h => h) (Or.inl ⟨by rfl, ?hy4p⟩) (by assumption) ?rest4p
      case hy4p => (intro V hSw; (try dsimp only at hSw); go_simp) <;> with_reducible rfl
      simp only [Act.put, List.getElem_toArray, List.getElem_cons_succ, List.getElem_cons_zero, List.setIfInBounds_toArray, List.set_cons_zero, List.set_cons_succ]
      refine wpAnyH_take (i := 5) (oi := _) (v := ?v5p) rfl (by kernel_rfl) (by kernel_rfl) (by kernel_rfl) (fun _ _ _ h => h) (Or.inl ⟨by rfl, ?hy5p⟩) (by assumption) ?rest5p
      case hy5p => (intro V hSw; (try dsimp only at hSw); go_simp) <;> with_reducible rfl
      simp only [Act.put, List.getElem_toArray, List.getElem_cons_succ, List.getElem_cons_zero, List.setIfInBounds_toArray, List.set_cons_zero, List.set_cons_succ]
      refine wpAnyH_take (i := 6) (oi := _) (v := ?v6p) rfl (by kernel_rfl) (by kernel_rfl) (by kernel_rfl) (fun _ _ _ h => h) (Or.inl ⟨by rfl, ?hy6p⟩) (by assumption) ?rest6p
      case hy6p => (intro V hSw; (try dsimp only at hSw); go_simp) <;> with_reducible rfl
      simp only [Act.put, List.getElem_toArray, List.getElem_cons_succ, List.getElem_cons_zero, List.setIfInBounds_toArray, List.set_cons_zero, List.set_cons_succ]
      refine wpAnyH_take (i := 7) (oi := _) (v := .agg el.toArray) rfl (by kernel_rfl) (by kernel_rfl) (by kernel_rfl) (fun _ _ _ h => h) (yieldsIf_load_mid (by rfl) _ _ rfl g (o + Y.toNat * 16) rfl el _ (fun V hSw => hSw.2) Tryz.underlying23 rfl HF.out.2.2.2.1) (by assumption) ?rest7p
      simp only [Act.put, List.getElem_toArray, List.getElem_cons_succ, List.getElem_cons_zero, List.setIfInBounds_toArray, List.set_cons_zero, List.set_cons_succ]
      have cbx := (HB.out.2.1.kept (grown_drew (World.grownBy.refl W none)) (by simp)).cell
      refine wpAnyH_ready (rs := [0, 8]) (by kernel_rfl) (by simp) ?_
      refine AllReadyH.cons (o := _) rfl (fun K hK => ?_) (AllReadyH.cons (o := _) rfl (fun K hK => ?_) AllReadyH.nil)
      · go_simp
        refine hK.out _ _ hHeld (fun hHeld => ?_)
        clear hK K
        try simp only [Act.put, List.setIfInBounds_toArray, List.set_cons_zero, List.set_cons_succ]
        refine wpAnyH_ready (rs := [8]) (by kernel_rfl) (by simp) ?_
        refine AllReadyH.cons (o := _) rfl (fun K hK => ?_) AllReadyH.nil
        rw [if_pos (by rfl)]
        refine wp_bslice_run 71 1 0 _ rfl (.agg el.toArray) _ rfl (HBS.out W.drew) ?_
        have HG1 := Lib.hid (grown_trans (grown_drew (World.grownBy.refl W none)) (World.grownBy_alloc W.drew (.cells fs 23) none))
        have HX1 := Lib.hid (HB.out.2.1.kept HG1.out (by simp))
        have HO1 := Lib.hid (own_keep HB.out.2.2.1 (grown_drew (World.grownBy.refl W none)))
        refine hK.out _ _ (SH.out _ none HG1.out (by simp) (by simp)) (fun hHeld => ?_)
        clear hK K cbx
        try simp only [Act.put, List.setIfInBounds_toArray, List.set_cons_zero, List.set_cons_succ]
        refine wpAnyH_ready (rs := [9]) (by kernel_rfl) (by simp) ?_
        refine AllReadyH.cons (o := _) rfl (fun K hK => ?_) AllReadyH.nil
        rw [if_pos (by rfl)]
        have HB2 := Lib.hid (Blk.new W.drew 23 fs)
        refine wp_append_own _ _ _ 71 rfl (w.heap.size + 3) 23 i0 _ 16 16 Tryz.underlying71 HI0.out.1 HI0.out.2.1 HI0.out.2.2.1 HI0.out.2.2.2 rfl (by decide) (.slice A1 pre.length cap1) _ _ rfl (HO1.out.alloc _) ⟨W.drew.heap.size, 0, none⟩ 1 1 fs.toList rfl (show fs.toList.length = 1 * 16 by rw [Array.length_toList]; exact HF.out.1) (fun j u hu => by rw [addr_zero_add]; exact (HB2.out.cell j).trans (by rw [← Array.getElem?_toList]; exact hu)) (fun u hu => (Array.all_eq_true_iff_forall_mem.1 HF.out.2.1) u (by simpa using hu)) (by have := HB.out.2.2.2.2.1; simp only [maxLen]; omega) (by have := HB.out.2.2.2.2.1; omega) (show w.heap.size + 3 ≤ (W.alloc (.cells fs 23)).heap.size by rw [World.size_alloc]; have := HB.out.2.2.2.1.size; omega) ?_
        intro v' w5 hown5 hgrow5 _
        obtain ⟨A5, cap5, rfl⟩ := own_slice _ hown5
        have hbx5 := HX1.out.kept hgrow5 (HX1.out.not_row (by decide) (HO1.out.alloc _))
        have cbx5 := hbx5.cell
        have fbx5 := hbx5.frozen
        have HX5 := Lib.hid (And.intro hbx5 (And.intro hown5 hgrow5))
        have hg5 := grown_trans (grown_weak HG1.out _) hgrow5
        have hS5 := SH.out _ _ hg5 (fun e => by have := (HO1.out.lt _ e).1; omega) HB.out.2.2.2.2.2.1
        have HG5 := Lib.hid hg5
        clear hbx5 hown5 hgrow5 hg5
        refine hK.out _ _ hS5 (fun hHeld => ?_)
        clear hK K
        try simp only [Act.put, List.setIfInBounds_toArray, List.set_cons_zero, List.set_cons_succ]
        refine wpAnyH_ready (rs := [10]) (by kernel_rfl) (by simp) ?_
        refine AllReadyH.cons (o := _) rfl (fun K hK => ?_) AllReadyH.nil
        go_simp
        have hg6 := grownBy_setCell' w5 (w.heap.size + 1) (.slice A5 (pre.length + 1) cap5)
        have hS6 : (w5.setCell ⟨w.heap.size + 1, 0, none⟩ (.slice A5 (pre.length + 1) cap5)).cell? ⟨w.heap.size, 0, none⟩ = some (.int .i64 iv) ∧ (w5.setCell ⟨w.heap.size + 1, 0, none⟩ (.slice A5 (pre.length + 1) cap5)).rangeAt g (o + Y.toNat * 16) el := ⟨hg6.cell hS5.1 (by simp), range_to hS5.2 hg6 (fun e => HB.out.2.2.2.2.2.2.1 (Option.some.inj e))⟩
        refine hK.out _ _ hS6 (fun _ => ?_)
        refine wpAnyH_done (by kernel_rfl) ?_ _
        obtain ⟨hB, hbx, hown, hG, hlen, hag, hgn, hk, hlt, hr⟩ := HB.out
        have hW0 : W0.heap.size ≤ W.heap.size := hG.size
        have hvb : ∀ q, (Value.slice A1 pre.length cap1).ownBlock = some q → w.heap.size + 3 ≤ q := fun q hq => (hown.lt q hq).1
        have hn1 : ∀ b', b' < w.heap.size + 1 → some b' ≠ (Value.slice A1 pre.length cap1).ownBlock ∧ some b' ≠ some (w.heap.size + 1) := fun b' hb' => ⟨fun e => by have := hvb _ e.symm; omega, fun e => by have := Option.some.inj e; omega⟩
        have hK1 : KpL ⟨k, n, g, o, c2⟩ W (W.drew.alloc (.cells fs 23)) := KpL.grown HG1.out (by simp) (by simp)
        have hK2 : KpL ⟨k, n, g, o, c2⟩ (W.drew.alloc (.cells fs 23)) w5 := KpL.grown HX5.out.2.2 (fun e => by have := hvb _ e; omega) (fun e => hag e.symm)
        have hK3 : KpL ⟨k, n, g, o, c2⟩ w5 (w5.setCell ⟨w.heap.size + 1, 0, none⟩ (.slice A5 (pre.length + 1) cap5)) := KpL.grown hg6 (fun e => by have := Option.some.inj e; omega) (fun e => hgn (Option.some.inj e).symm)
        refine ⟨(((keeps_grown HG1.out).trans (keeps_own HX5.out.2.2 (HO1.out.alloc _))).trans (KeepsOthers.setCell _ _ _)).from _, (hK1.trans hK2).trans hK3, ((hB.grown HG1.out (by simp)).grown HX5.out.2.2 (hn1 _ (by omega)).1).grown hg6 (hn1 _ (by omega)).2, ?_, grown_trans (grown_own_r (grown_trans hG (grown_weak HG1.out _)) HX5.out.2.2 (HO1.out.alloc _) (by omega)) hg6, by rw [List.length_append, List.length_singleton, ← hk]; omega⟩
        refine ⟨_, HX5.out.1.set _, ?_, trivial⟩
        have := HX5.out.2.1.kept hg6 (.inr (HX5.out.1.not_row (by decide) HX5.out.2.1).symm)
        rw [HF.out.2.2.1, hk] at this
        rw [List.length_append, List.length_singleton, rowV]
        exact this
      · rw [if_pos (by rfl)]
        refine wp_bslice_run 71 1 0 _ rfl (.agg el.toArray) _ rfl (HBS.out W.drew) ?_
        have HG1 := Lib.hid (grown_trans (grown_drew (World.grownBy.refl W none)) (World.grownBy_alloc W.drew (.cells fs 23) none))
        have HX1 := Lib.hid (HB.out.2.1.kept HG1.out (by simp))
        have HO1 := Lib.hid (own_keep HB.out.2.2.1 (grown_drew (World.grownBy.refl W none)))
        refine hK.out _ _ (SH.out _ none HG1.out (by simp) (by simp)) (fun hHeld => ?_)
        clear hK K cbx
        try simp only [Act.put, List.setIfInBounds_toArray, List.set_cons_zero, List.set_cons_succ]
        have cbx := (HB.out.2.1.kept (World.grownBy_alloc W (.cells fs 23) none) (by simp)).cell
        refine wpAnyH_ready (rs := [0]) (by kernel_rfl) (by simp) ?_
        refine AllReadyH.cons (o := _) rfl (fun K hK => ?_) AllReadyH.nil
        go_simp
        refine hK.out _ _ hHeld (fun hHeld => ?_)
        clear hK K cbx
        try simp only [Act.put, List.setIfInBounds_toArray, List.set_cons_zero, List.set_cons_succ]
        refine wpAnyH_ready (rs := [9]) (by kernel_rfl) (by simp) ?_
        refine AllReadyH.cons (o := _) rfl (fun K hK => ?_) AllReadyH.nil
        rw [if_pos (by rfl)]
        have HB2 := Lib.hid (Blk.new W.drew 23 fs)
        refine wp_append_own _ _ _ 71 rfl (w.heap.size + 3) 23 i0 _ 16 16 Tryz.underlying71 HI0.out.1 HI0.out.2.1 HI0.out.2.2.1 HI0.out.2.2.2 rfl (by decide) (.slice A1 pre.length cap1) _ _ rfl (HO1.out.alloc _) ⟨W.drew.heap.size, 0, none⟩ 1 1 fs.toList rfl (show fs.toList.length = 1 * 16 by rw [Array.length_toList]; exact HF.out.1) (fun j u hu => by rw [addr_zero_add]; exact (HB2.out.cell j).trans (by rw [← Array.getElem?_toList]; exact hu)) (fun u hu => (Array.all_eq_true_iff_forall_mem.1 HF.out.2.1) u (by simpa using hu)) (by have := HB.out.2.2.2.2.1; simp only [maxLen]; omega) (by have := HB.out.2.2.2.2.1; omega) (show w.heap.size + 3 ≤ (W.alloc (.cells fs 23)).heap.size by rw [World.size_alloc]; have := HB.out.2.2.2.1.size; omega) ?_
        intro v' w5 hown5 hgrow5 _
        obtain ⟨A5, cap5, rfl⟩ := own_slice _ hown5
        have hbx5 := HX1.out.kept hgrow5 (HX1.out.not_row (by decide) (HO1.out.alloc _))
        have cbx5 := hbx5.cell
        have fbx5 := hbx5.frozen
        have HX5 := Lib.hid (And.intro hbx5 (And.intro hown5 hgrow5))
        have hg5 := grown_trans (grown_weak HG1.out _) hgrow5
        have hS5 := SH.out _ _ hg5 (fun e => by have := (HO1.out.lt _ e).1; omega) HB.out.2.2.2.2.2.1
        have HG5 := Lib.hid hg5
        clear hbx5 hown5 hgrow5 hg5
        refine hK.out _ _ hS5 (fun hHeld => ?_)
        clear hK K
        try simp only [Act.put, List.setIfInBounds_toArray, List.set_cons_zero, List.set_cons_succ]
        refine wpAnyH_ready (rs := [10]) (by kernel_rfl) (by simp) ?_
        refine AllReadyH.cons (o := _) rfl (fun K hK => ?_) AllReadyH.nil
        go_simp
        have hg6 := grownBy_setCell' w5 (w.heap.size + 1) (.slice A5 (pre.length + 1) cap5)
        have hS6 : (w5.setCell ⟨w.heap.size + 1, 0, none⟩ (.slice A5 (pre.length + 1) cap5)).cell? ⟨w.heap.size, 0, none⟩ = some (.int .i64 iv) ∧ (w5.setCell ⟨w.heap.size + 1, 0, none⟩ (.slice A5 (pre.length + 1) cap5)).rangeAt g (o + Y.toNat * 16) el := ⟨hg6.cell hS5.1 (by simp), range_to hS5.2 hg6 (fun e => HB.out.2.2.2.2.2.2.1 (Option.some.inj e))⟩
        refine hK.out _ _ hS6 (fun _ => ?_)
        refine wpAnyH_done (by kernel_rfl) ?_ _
        obtain ⟨hB, hbx, hown, hG, hlen, hag, hgn, hk, hlt, hr⟩ := HB.out
        have hW0 : W0.heap.size ≤ W.heap.size := hG.size
        have hvb : ∀ q, (Value.slice A1 pre.length cap1).ownBlock = some q → w.heap.size + 3 ≤ q := fun q hq => (hown.lt q hq).1
        have hn1 : ∀ b', b' < w.heap.size + 1 → some b' ≠ (Value.slice A1 pre.length cap1).ownBlock ∧ some b' ≠ some (w.heap.size + 1) := fun b' hb' => ⟨fun e => by have := hvb _ e.symm; omega, fun e => by have := Option.some.inj e; omega⟩
        have hK1 : KpL ⟨k, n, g, o, c2⟩ W (W.drew.alloc (.cells fs 23)) := KpL.grown HG1.out (by simp) (by simp)
        have hK2 : KpL ⟨k, n, g, o, c2⟩ (W.drew.alloc (.cells fs 23)) w5 := KpL.grown HX5.out.2.2 (fun e => by have := hvb _ e; omega) (fun e => hag e.symm)
        have hK3 : KpL ⟨k, n, g, o, c2⟩ w5 (w5.setCell ⟨w.heap.size + 1, 0, none⟩ (.slice A5 (pre.length + 1) cap5)) := KpL.grown hg6 (fun e => by have := Option.some.inj e; omega) (fun e => hgn (Option.some.inj e).symm)
        refine ⟨(((keeps_grown HG1.out).trans (keeps_own HX5.out.2.2 (HO1.out.alloc _))).trans (KeepsOthers.setCell _ _ _)).from _, (hK1.trans hK2).trans hK3, ((hB.grown HG1.out (by simp)).grown HX5.out.2.2 (hn1 _ (by omega)).1).grown hg6 (hn1 _ (by omega)).2, ?_, grown_trans (grown_own_r (grown_trans hG (grown_weak HG1.out _)) HX5.out.2.2 (HO1.out.alloc _) (by omega)) hg6, by rw [List.length_append, List.length_singleton, ← hk]; omega⟩
        refine ⟨_, HX5.out.1.set _, ?_, trivial⟩
        have := HX5.out.2.1.kept hg6 (.inr (HX5.out.1.not_row (by decide) HX5.out.2.1).symm)
        rw [HF.out.2.2.1, hk] at this
        rw [List.length_append, List.length_singleton, rowV]
        exact this
--BODY1
    · obtain rfl : k = 5 := by omega
      have d5 : (I == 5) = true := by rw [hI]; rfl
      have HE := Lib.hid (And.intro hE (And.intro hG hk))
      clear hB hE hG hlen hk hk5 hn hgn hDk hAs hl0 hl1 hlt hI
      gi_wp2
      obtain ⟨hE, hG, hk⟩ := HE.out
      rw [← hk] at hE
      exact ⟨(keeps_grown (World.grownBy.refl W none)).from _, rfl, hE, hG⟩
  case done =>
    rintro Dd xs W hD hS ⟨_, _, _, hlen⟩ _
    omega
  case stop =>
    rintro Dd c' pre W hD _ ⟨rfl, ⟨v, hbx, hown, _⟩, hG⟩ hK
    obtain ⟨g, cap, rfl, hcap, hg, hth, hrg⟩ := own_rows (wayV ps i) (fun k => wayV_size HN.out.2.1 i k) (by omega) hown
    have hGw : w.grownBy W none := grown_fresh hg0 hG (by omega)
    have cbx := hbx.cell
    have HX := Lib.hid (And.intro hcap (And.intro hg (And.intro hth (And.intro hrg hGw))))
    have HKD := Lib.hid (And.intro hK hD)
    clear hbx hown hG hcap hg hth hrg hGw hK hD
    gi_wp2
    have hK' := HKD.out.1
    refine ⟨by simp, .inl ⟨_, _, rfl, run_takeDeferred hK', ?_⟩⟩
    obtain ⟨hcap, hg, hth, hrg, hGw⟩ := HX.out
    have hp := grownBy_putObj' W Dd (.deferred none)
    have hne : some g ≠ some Dd := by
      intro e
      have e := Option.some.inj e
      subst e
      obtain ⟨h1, _⟩ := hth 0 (by omega)
      simp [World.cell?, HKD.out.1] at h1
    exact ⟨_, results_tmp2 rfl _ _ _, g, cap, rfl, hcap, by omega, there_to hth hp hne, fun k hk => range_to (hrg k hk) hp hne, grown_fresh hGw hp (by have := HKD.out.2; omega)⟩
end Go.Proofs.YthkjlgjbjjjohaaGreatDoor
/-
  quorateref03.Same of rows of any length.
-/
namespace Go.Proofs.YthkjlgjbjjjohaaGreatDoor
open Go.RowKit

/-- As far as k they are the same. -/
def SameTo (k : Nat) (ps qs : List (List Int)) : Prop := ∀ j, j < k → ps.getD j zeroC = qs.getD j zeroC
theorem sameTo_all {ps qs : List (List Int)} {n : Nat} (h1 : ps.length = n) (h2 : qs.length = n) (h : SameTo n ps qs) : ps = qs := by
  refine List.ext_getElem (by omega) fun i i1 i2 => ?_
  have := h i (by omega)
  rw [List.getD, List.getD, List.getElem?_eq_getElem i1, List.getElem?_eq_getElem i2] at this
  exact this
end Go.Proofs.YthkjlgjbjjjohaaGreatDoor
/-
  Ways up and roots: what several laws of digests' trees need; it names no law.
-/
namespace Go.Proofs.YthkjlgjbjjjohaaGreatDoor
open Go.RowKit

/-- The way up but its first digest. -/
theorem way_rest {w : World} {g : Nat} {ps : List (List Int)} {i : Nat} (h : ∀ k, k < 5 → w.rangeAt g (0 + k * 16) (wayV ps i k).toList) : DigsAt w g 16 (upto (fun k => wayC ps i (k + 1)) 4) := fun j hj => by
  rw [upto_length] at hj
  rw [upto_get hj]
  have := h (j + 1) (by omega)
  rwa [show 0 + (j + 1) * 16 = 16 + j * 16 by omega] at this
theorem way_dig {ps : List (List Int)} (hps : ∀ p ∈ ps, isDig p) (f : Nat → Nat) (i n : Nat) : ∀ p ∈ upto (fun k => wayC ps i (f k)) n, isDig p := by
  intro p hp
  simp only [upto, List.mem_map] at hp
  obtain ⟨k, _, rfl⟩ := hp
  exact wayC_dig hps _ _
theorem u64_rem32 (x : Int) : IntKind.i64.wrap ((IntKind.u64.wrap x).tmod 32) = x % 32 ∧ IntKind.u64.wrap x % 32 = x % 32 := by
  have h : IntKind.u64.wrap x = x % 18446744073709551616 := by simp [IntKind.wrap, IntKind.bits, IntKind.signed]
  rw [h]
  have h2 : (x % 18446744073709551616).tmod 32 = x % 32 := by rw [Int.tmod_eq_emod_of_nonneg (by omega)]; omega
  refine ⟨?_, by omega⟩
  rw [h2, IntKind.wrap_i64]; omega
theorem wayL_get (ps : List (List Int)) (i : Nat) : ∀ h, h < 5 → (upto (wayC ps i) 5).getD h zeroC = wayC ps i h := fun _ h => upto_get h
theorem wayL_digs {w : World} {g : Nat} {ps : List (List Int)} {i : Nat} (h : ∀ k, k < 5 → w.rangeAt g (0 + k * 16) (wayV ps i k).toList) : DigsAt w g 0 (upto (wayC ps i) 5) := fun j hj => by
  rw [upto_length] at hj
  rw [upto_get hj]
  exact h j hj
/-- The root that a leaf's own way up leads to. -/
theorem climb_root {ps : List (List Int)} {i : Nat} (hi : i < 32) : climbC (ps.getD i zeroC) (i : Int) (upto (wayC ps i) 5) 5 = nodeC ps 5 0 := by
  rw [climb_way ps _ i _ (by rw [nodeC]) 5 (wayL_get ps i), show i / 2 ^ 5 = 0 by omega]
end Go.Proofs.YthkjlgjbjjjohaaGreatDoor
