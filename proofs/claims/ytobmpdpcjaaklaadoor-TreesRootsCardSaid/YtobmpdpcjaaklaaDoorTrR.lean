/-
  trees.Root.
-/
import Derived.Test.YtobmpdpcjaaklaaDoorTrL
namespace Go.Proofs.YtobmpdpcjaaklaaDoor
open Go.RowKit Go.Shelf

attribute [local go_sem] Oper.semAt_some

theorem lev_pos {k : Nat} (h : k ≤ 5) : 0 < 32 / 2 ^ k := by
  have : k = 0 ∨ k = 1 ∨ k = 2 ∨ k = 3 ∨ k = 4 ∨ k = 5 := by omega
  rcases this with rfl | rfl | rfl | rfl | rfl | rfl <;> decide
/-- What the root's variable holds behind these levels. -/
def rootV (ps : List (List Int)) : Nat → Array Value
  | 0 => arrV .u8 (List.replicate 16 0)
  | k + 1 => arrV .u8 (nodeC ps k 0)

set_option maxRecDepth 100000 in
set_option maxHeartbeats 4000000 in
theorem root_ok (w : World) (hR : Rounds w) (b off c : Nat) (ps : List (List Int)) (hl : ps.length = 32) (hps : ∀ p ∈ ps, isDig p) (hD : DigsAt w b off ps) (rs : Array Value) (hrs : rs = arrV .u8 (nodeC ps 5 0)) :
    Calls Tryd.prog 9 #[.slice (some ⟨b, off, none⟩) 32 c] w fun e w' => e = .returned (.tuple #[.agg rs, .nilIface]) ∧ w.grownBy w' none := by
  obtain ⟨Z16, hZ16⟩ : ∃ Z, Z = arrV .u8 (List.replicate 16 0) := ⟨_, rfl⟩
  have hz16 : ∀ w, Sem.run Tryd.prog (zeroValue 25) w = .ok (.agg Z16) w := fun w => by rw [hZ16]; exact z16run w
  have hbw := (digs_block hps hD (by omega)).1
  have HD := Lib.hid (show Z16.size = 16 ∧ Z16 = rootV ps 0 from ⟨by rw [hZ16]; rfl, by rw [hZ16, rootV]⟩)
  have HN := Lib.hid (And.intro hl (And.intro hps (And.intro hrs (And.intro hR (And.intro hD hbw)))))
  clear hZ16 hl hps hrs hR hD hbw
  refine (callsIn_wide (n := 6)).1 ?_
  refine callsIn_of_wp_marks Tryd.func9 rfl trivial ?_ rfl
  simp only [Tryd.ntmps9, List.size_toArray, List.length_cons, List.length_nil, Nat.reduceAdd, Nat.reduceSub, Array.replicate_succ, Array.replicate_zero, List.push_toArray, List.append_toArray, List.nil_append, List.cons_append]
  gi_wp2
  refine ⟨trivial, ?_⟩
  refine (levels_in _ _ _ _ _ _ rfl).mono ?_
  rintro e w1 ⟨rfl, rfl⟩
  gi_wp2
  have c2 := (Blk.new w 25 Z16).alloc (.cells Z16 25)
  have c4 := Blk.new (w.alloc (.cells Z16 25)) 25 Z16
  have c5 := Blk.new ((w.alloc (.cells Z16 25)).alloc (.cells Z16 25)) 22 #[.slice (some ⟨b, off, none⟩) 32 c]
  simp only [World.size_alloc] at c4 c5
  have d2 := c2.alloc (.cells #[.slice (some ⟨b, off, none⟩) 32 c] 22)
  have d4 := c4.alloc (.cells #[.slice (some ⟨b, off, none⟩) 32 c] 22)
  have hg0 : w.grownBy (((w.alloc (.cells Z16 25)).alloc (.cells Z16 25)).alloc (.cells #[.slice (some ⟨b, off, none⟩) 32 c] 22)) none := grown_trans (grown_trans (World.grownBy_alloc w _ none) (World.grownBy_alloc _ _ none)) (World.grownBy_alloc _ _ none)
  obtain ⟨W0, hW0⟩ : ∃ W0, (((w.alloc (.cells Z16 25)).alloc (.cells Z16 25)).alloc (.cells #[.slice (some ⟨b, off, none⟩) 32 c] 22)) = W0 := ⟨_, rfl⟩
  have hsz : W0.heap.size = w.heap.size + 3 := by rw [← hW0]; simp
  rw [hW0] at hg0 d2 d4 c5 ⊢
  clear c2 c4 hW0
  have hRl := HN.out.2.2.2.1.lt
  refine wpIn_rangeFunc_told rfl (by omega) (gf := 25) (lb := #[.pointer (some ⟨w.heap.size + 1 + 1, 0, none⟩)]) rfl trivial (enters_of Tryd.func25 (by kernel_rfl) rfl)
    (levels_seq 5 (by omega) (w.heap.size + 1 + 1) b off c ps HN.out.1 HN.out.2.1 W0 (HN.out.2.2.2.1.grown hg0 (by simp)) c5 (HN.out.2.2.2.2.1.grown hg0)) (fun h1 h2 => KpL.trans h1 h2)
    (fun x W l o o' hl ho hc _ => KpL.put (by omega) ho hc) PhiL.mono (Below.refl _ _) (fun _ => rfl)
    (fun pre W => Blk W w.heap.size 25 Z16 ∧ (Blk W (w.heap.size + 1) 25 (rootV ps pre.length) ∧ W0.grownBy W (some (w.heap.size + 1))))
    (fun _ _ _ => False)
    (OwnFrom.and (ownFrom_blk _) (OwnFrom.and (ownFrom_blk _) (ownFrom_grownr (Nat.le_refl _))))
    (fun _ => ownFrom_pure _)
    ⟨d2, by rw [List.length_nil, ← HD.out.2]; exact d4, World.grownBy.refl _ _⟩
    (fun pre x a' W => (a' = { tmps := #[.slice (some ⟨b, off, none⟩) 32 c, undef, .pointer (some ⟨w.heap.size, 0, none⟩), .nilIface, .pointer (some ⟨w.heap.size + 1, 0, none⟩), undef, .slice (some ⟨x.g, x.o, none⟩) x.n x.c, .slice (some ⟨b, off, none⟩) 32 c, .int .i64 32, .bool false, undef, undef, .slice (some ⟨b, off, none⟩) 32 c, .func (.func 25) #[] #[.pointer (some ⟨w.heap.size + 1 + 1, 0, none⟩)], .int .i64 (x.k : Int), .slice (some ⟨x.g, x.o, none⟩) x.n x.c, undef, undef, undef, undef], defers := [] } ∧ x.k = pre.length ∧ 0 < x.n ∧ x.g ≠ w.heap.size + 1) ∧ DigsAt W x.g x.o (levC ps x.k x.n))
    (fun pre x a' => OwnFrom.and (ownFrom_pure _) digs_abide) ?assign ?body ?done ?stop
  case assign =>
    rintro l pre ⟨k, n, g, o, c2⟩ W K ⟨hZ, hB, hG⟩ ⟨h1, h2, h3, h4, h5⟩ hK
    have hn0 : 0 < n := by
      simp only at h3 h2
      rw [h3]
      exact lev_pos h2
    have hgn : g ≠ w.heap.size + 1 := by
      have := HN.out.2.2.2.2.2
      rcases h5 with h5 | ⟨h5, _⟩
      · simp only at h5; omega
      · simp only at h5; omega
    have HK := Lib.hid (hK _ W ((keeps_grown (World.grownBy.refl W none)).from _) (KpL.grown (World.grownBy.refl W none) (by simp) (by simp)) ⟨hZ, hB, hG⟩ ⟨⟨rfl, h1, hn0, hgn⟩, h4⟩)
    clear hK hZ hB hG h1 h2 h3 h4 h5 hn0 hgn
    simp only [levE]
    gi_wp2
    exact HK.out
  case body =>
    rintro l pre ⟨k, n, g, o, c2⟩ a' W hl0 hl1 ⟨hZ, hB, hG⟩ ⟨⟨rfl, hk, hn0, hgn⟩, hDk⟩
    simp only at hk hn0 hgn hDk
    obtain ⟨I, hI⟩ : ∃ I : Int, I = (k : Int) := ⟨_, rfl⟩
    simp only [← hI]
    obtain ⟨es, hes⟩ : ∃ es, es = arrV .u8 (nodeC ps k 0) := ⟨_, rfl⟩
    obtain ⟨el, hel⟩ : ∃ el, el = es.toList := ⟨_, rfl⟩
    have he16 : es.size = 16 := by rw [hes, arr_size]; exact (nodeC_dig HN.out.2.1 _ _).1
    have hr : W.rangeAt g o el := by
      have := hDk 0 (by rw [levC_length]; exact hn0)
      rw [levC_get hn0] at this
      rw [hel, hes]
      simpa using this
    obtain ⟨ro, hro⟩ : ∃ ro, ro = rootV ps pre.length := ⟨_, rfl⟩
    rw [← hro] at hB
    have hro16 : ro.size = 16 := by
      rw [hro]
      cases pre.length with
      | zero => rfl
      | succ m => rw [rootV, arr_size]; exact (nodeC_dig HN.out.2.1 _ _).1
    have HE := Lib.hid (And.intro he16 (And.intro (show (es.all fun v => v.oneCell') = true by rw [hes]; exact arr_one _ _) (And.intro hr (And.intro (show (Tryd.prog.info? 25).map (·.size) = some el.length by rw [hel, Array.length_toList, he16]; exact info16) (show el.toArray = es by rw [hel, Array.toArray_toList])))))
    have HB := Lib.hid (And.intro hB (And.intro hro16 (And.intro hZ (And.intro hG (And.intro hk (And.intro hgn hes))))))
    have hn : 0 < (n : Int) := by omega
    clear hB hro hro16 hZ hG hes hel he16 hr hDk hk hgn hI hl0 hl1
    gi_wp2_with (first
      | (refine wpListIn_load_mid rfl 25 _ rfl g _ rfl el _ HE.out.2.2.1 Tryd.underlying25 rfl HE.out.2.2.2.1 ?_; rw [HE.out.2.2.2.2])
      | (refine wpListIn_store_row rfl 25 _ _ rfl (w.heap.size + 1) es rfl rfl 25 _ HB.out.1 (by rw [HE.out.1]; exact info16) (by rw [HB.out.2.1, HE.out.1]) HE.out.2.1 ?_))
    obtain ⟨hB, _, hZ, hG, hk, hgn, hes⟩ := HB.out
    have hrow : W.grownBy (W.setRow (w.heap.size + 1) es) (some (w.heap.size + 1)) := grown_row (World.grownBy.refl W _) (.inr rfl) es
    exact ⟨(keeps_row hB hrow).from _, KpL.grown hrow (by intro e; have := Option.some.inj e; omega) (by intro e; exact hgn (Option.some.inj e).symm), hZ.farRow (by omega) es, by rw [List.length_append, List.length_singleton, rootV, ← hk, ← hes]; exact hB.row es, grown_trans hG hrow⟩
  case done =>
    rintro Dd xs W hD hS ⟨hZ, hB, hG⟩ hK
    rw [hS, rootV, ← HN.out.2.2.1] at hB
    have hGw : w.grownBy W none := grown_fresh hg0 hG (by omega)
    have hnd := nodeC_dig HN.out.2.1 5 0
    have HS6 := Lib.hid (show rs.size = 16 ∧ (rs.all fun x => x.oneCell') = true from ⟨by rw [HN.out.2.2.1, arr_size]; exact hnd.1, by rw [HN.out.2.2.1]; exact arr_one _ _⟩)
    have HB := Lib.hid (And.intro hB (And.intro hZ hGw))
    have HKD := Lib.hid (And.intro hK hD)
    clear hB hZ hG hGw hK hD hnd
    gi_wp2_with (first
      | (refine wpListIn_load_row rfl 25 _ rfl (w.heap.size + 1) rfl 25 rs (0, 0) _ HB.out.1 Tryd.underlying25 rfl (by rw [HS6.out.1]; exact info16) ?_)
      | (refine wpListIn_store_row rfl 25 _ _ rfl w.heap.size rs rfl rfl 25 _ HB.out.2.1 (by rw [HS6.out.1]; exact info16) (by rw [HD.out.1, HS6.out.1]) HS6.out.2 ?_))
    have hK' : (W.setRow w.heap.size rs).heap[Dd]? = some (.deferred (some [])) := (setRow_other _ _ _ _ (by have := HKD.out.2; omega)).trans HKD.out.1
    have hZ' := (HB.out.2.1.row rs).grown (grownBy_putObj' _ Dd (.deferred none)) (by intro e; have := Option.some.inj e; have := HKD.out.2; omega)
    refine ⟨by simp, .inl ⟨_, _, rfl, run_takeDeferred hK', ?_⟩⟩
    exact ⟨_, results_cell_t rfl _ _ _ ⟨w.heap.size, 0, none⟩ (.agg rs) rfl (run_loadVar_row _ w.heap.size 25 25 rs (0, 0) _ hZ' Tryd.underlying25 rfl (by rw [HS6.out.1]; exact info16)), rfl, grown_fresh (grown_row HB.out.2.2 (.inl (Nat.le_refl _)) rs) (grownBy_putObj' _ Dd (.deferred none)) (by have := HKD.out.2; omega)⟩
  case stop => rintro Dd c pre W hD hk h hK; exact h.elim
end Go.Proofs.YtobmpdpcjaaklaaDoor
