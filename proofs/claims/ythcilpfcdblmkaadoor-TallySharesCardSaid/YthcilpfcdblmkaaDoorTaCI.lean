/-
  Tally, keys of type int: Who.
-/
import Derived.Test.YthcilpfcdblmkaaDoorTaBI
import Derived.Test.YthcilpfcdblmkaaDoorTaH
namespace Go.Proofs.YthcilpfcdblmkaaDoor
open Go.RowKit Go.Shelf

attribute [local go_sem] Oper.semAt_some

set_option maxRecDepth 100000 in
set_option maxHeartbeats 4000000 in
theorem whoI_is (w : World) (t b n : Nat) (W0 : List (Wd Int)) (hn : W0.length = n) (hnb : n ≤ 1000) (hc : w.cell? ⟨t, 1, none⟩ = some (.slice (some ⟨b, 0, none⟩) n n)) (hW : WdsI w b W0) (key : Int) :
    Calls Tryd.prog 17 #[.pointer (some ⟨t, 0, none⟩), (.int .i64 key)] w fun e w' => ∃ A c, e = .returned (.slice A (whoL W0 key).length c) ∧ IntsAt w' A (whoL W0 key) ∧ (whoL W0 key).length ≤ c ∧ w.grownBy w' none := by
  obtain ⟨i0, hi, hz0, hz1, hz2⟩ := info_parts int_info
  have HI0 := Lib.hid (And.intro hi (And.intro hz0 (And.intro hz1 hz2)))
  have HN := Lib.hid (And.intro hn (And.intro hnb (And.intro hc hW)))
  clear hn hnb hc hW hi hz0 hz1 hz2
  refine (callsIn_wide (n := 6)).1 ?_
  refine callsIn_of_wp_marks Tryd.func17 rfl trivial ?_ rfl
  simp only [Tryd.ntmps17, List.size_toArray, List.length_cons, List.length_nil, Nat.reduceAdd, Nat.reduceSub, Array.replicate_succ, Array.replicate_zero, List.push_toArray, List.append_toArray, List.nil_append, List.cons_append]
  gi_wp2
  refine ⟨trivial, ?_⟩
  refine (toldI_in _ _ _ _ rfl).mono ?_
  rintro e w1 ⟨rfl, rfl⟩
  gi_wp2
  obtain ⟨U, hU⟩ : ∃ U, ((w.alloc (.cells #[(.int .i64 key)] 3)).alloc (.cells #[.slice none 0 0] 42)).alloc (.cells #[.pointer (some ⟨t, 0, none⟩)] 25) = U := ⟨_, rfl⟩
  have g3 : w.grownBy U none := by rw [← hU]; exact grown_trans (grown_trans (World.grownBy_alloc _ _ none) (World.grownBy_alloc _ _ none)) (World.grownBy_alloc _ _ none)
  have z3 : U.heap.size = w.heap.size + 3 := by rw [← hU]; simp
  have bk : Blk U w.heap.size 3 #[(.int .i64 key)] := by rw [← hU]; exact ((Blk.new w _ _).alloc _).alloc _
  have bl : Blk U (w.heap.size + 1) 42 #[.slice none 0 0] := by
    have h := (Blk.new (w.alloc (.cells #[(.int .i64 key)] 3)) 42 #[.slice none 0 0]).alloc (.cells #[.pointer (some ⟨t, 0, none⟩)] 25)
    rw [World.size_alloc, hU] at h
    exact h
  have bt : Blk U (w.heap.size + 1 + 1) 25 #[.pointer (some ⟨t, 0, none⟩)] := by
    have h := Blk.new ((w.alloc (.cells #[(.int .i64 key)] 3)).alloc (.cells #[.slice none 0 0] 42)) 25 #[.pointer (some ⟨t, 0, none⟩)]
    rw [World.size_alloc, World.size_alloc, hU] at h
    exact h
  rw [hU]
  clear hU
  have hst : HoldI (w.heap.size + 1) U [] U := ⟨Kept.refl _ _, none, 0, bl, World.ownsRow_nil _ _ _ _⟩
  have htl : t < w.heap.size := World.block_lt_of_cell? w _ HN.out.2.2.1
  have hbl : b < w.heap.size := HN.out.2.2.2.lt
  have HU := Lib.hid (And.intro g3 (And.intro z3 (And.intro bk (And.intro htl hbl))))
  have hcU : U.cell? ⟨t, 1, none⟩ = some (.slice (some ⟨b, 0, none⟩) n n) := g3.cell HN.out.2.2.1 (by simp)
  have hWU : WdsI U b W0 := HN.out.2.2.2.grown g3 (by simp)
  refine wpIn_rangeFunc_told rfl (by omega) (gf := 42) (lb := #[.pointer (some ⟨w.heap.size + 1 + 1, 0, none⟩)]) rfl trivial (enters_of Tryd.func42 (by kernel_rfl) rfl)
    (toldI_seq 5 (by omega) (w.heap.size + 1 + 1) t b n W0 HN.out.1 HN.out.2.1 U (by omega) hcU hWU bt) (fun h1 h2 => Still.trans h1 h2)
    (fun x W l o o' hl ho hc _ => Still.put ho hc) PhiWI.mono (Below.refl _ _) (fun _ => rfl)
    (fun pre W => HoldI (w.heap.size + 1) U (placesL (pickK key pre)) W)
    (fun _ _ _ => False)
    (hold_own (fun pre => placesL (pickK key pre)) (by omega))
    (fun _ s W W' row h _ _ => h)
    hst
    (fun pre x a' W => ∃ g, U.heap.size ≤ g ∧ (a' = { tmps := #[.pointer (some ⟨t, 0, none⟩), (.int .i64 key), undef, .pointer (some ⟨w.heap.size, 0, none⟩), .slice none 0 0, .pointer (some ⟨w.heap.size + 1, 0, none⟩), .int .i64 (x.1 : Int), .pointer (some ⟨g, 0, none⟩), .pointer (some ⟨t, 0, none⟩), .func (.func 42) #[] #[.pointer (some ⟨w.heap.size + 1 + 1, 0, none⟩)], .int .i64 (x.1 : Int), .agg #[.bool x.2.said, (.int .i64 x.2.key), .int .i64 x.2.thing], undef, undef, undef, undef, undef, undef, undef, undef, undef], defers := [] } ∧ PhiPI W0 pre x) ∧ Blk W g 77 #[.bool x.2.said, (.int .i64 x.2.key), .int .i64 x.2.thing])
    (fun pre x a' => ownFrom_ax _ _ _) ?assign ?body ?done ?stop
  case assign =>
    rintro l pre x W K hI hphi hK
    have hUW := hI.1.size
    have hg1 := World.grownBy_alloc W (.cells #[.bool x.2.said, (.int .i64 x.2.key), .int .i64 x.2.thing] 77) none
    have HK := Lib.hid (show K _ (W.alloc (.cells #[.bool x.2.said, (.int .i64 x.2.key), .int .i64 x.2.thing] 77)) from hK _ _ ((keeps_grown hg1).from _) (Still.of_kept (Kept.of_grown (F := fun _ => False) hg1 fun _ e => by cases e) (fun _ h => h.elim)) (hold_grown hI hg1) ⟨W.heap.size, hUW, ⟨rfl, hphi⟩, Blk.new _ _ _⟩)
    clear hK hI hphi hg1
    simp only [wdEI]
    gi_wp2
    exact HK.out
  case stop => rintro Dd c' pre W _ _ h; exact h.elim
  case body =>
    rintro l pre x a' W hl0 hl1 hI ⟨g, hgU, ⟨rfl, hphi⟩, hbg⟩
    have hpl : pre.length ≤ 1000 := by
      obtain ⟨k, hk, hpre, _⟩ := hphi
      have := toldK_length_le W0 k
      have := HN.out.1
      have := HN.out.2.1
      rw [hpre]; omega
    have hzl : (placesL (pickK key pre)).length ≤ 1000 := by rw [placesL, List.length_map]; exact Nat.le_trans (pickK_length _ _) hpl
    obtain ⟨i, ⟨sd, ky, th⟩⟩ := x
    have hyes : ky = key → placesL (pickK key (pre ++ [(i, ⟨sd, ky, th⟩)])) = placesL (pickK key pre) ++ [(i : Int)] := fun h => by rw [pickK_yes h, placesL, List.map_append]; rfl
    have hno : ¬ ky = key → placesL (pickK key (pre ++ [(i, ⟨sd, ky, th⟩)])) = placesL (pickK key pre) := fun h => by rw [pickK_no h]
    obtain ⟨zs, hzs⟩ : ∃ zs, placesL (pickK key pre) = zs := ⟨_, rfl⟩
    obtain ⟨ys, hys⟩ : ∃ ys, placesL (pickK key (pre ++ [(i, ⟨sd, ky, th⟩)])) = ys := ⟨_, rfl⟩
    rw [hzs] at hI hzl hyes hno
    rw [hys] at hyes hno
    have HY := Lib.hid hys
    clear hys hzs hphi hpl
    obtain ⟨h1, A3, c3, h2, h3⟩ := hI
    have ck := (HU.out.2.2.1.kept h1 (fun h => by omega)).cell 0
    have c16 := h2.cell 0
    have q1 := hbg.cell 1
    simp only [List.getElem?_toArray, List.getElem?_cons_zero, List.getElem?_cons_succ] at ck c16 q1
    obtain ⟨I, hII⟩ : ∃ I : Int, I = (i : Int) := ⟨_, rfl⟩
    simp only [← hII] at hyes ⊢
    have HS := Lib.hid (sameI_is W ky key)
    have hsW := h1.size
    have hUs := HU.out.2.1
    by_cases hk : ky = key
    · have d1 : decide (ky = key) = true := by simpa using hk
      have hafter : ∀ W3, (W.alloc (.cells #[.int .i64 I] 3)).grownBy W3 (Value.slice A3 zs.length c3).ownBlock → W3.cell? ⟨w.heap.size + 1, 0, none⟩ = some (.slice A3 zs.length c3) ∧ W3.frozen? ⟨w.heap.size + 1, 0, none⟩ = false := fun W3 h => by
        have hb3 : Blk W3 (w.heap.size + 1) 42 #[.slice A3 zs.length c3] := (h2.alloc _).grown h (fun e => by
          obtain ⟨a, e1, e2⟩ := own_at e.symm
          have := own_from h3 a e1
          omega)
        exact ⟨hb3.cell 0, hb3.frozen 0⟩
      have HA9 := Lib.hid hafter
      have HO := Lib.hid (h3.alloc (.cells #[.int .i64 I] 3))
      have HB := Lib.hid (And.intro h1 (And.intro h2 (And.intro h3 (hyes hk))))
      rw [d1] at HS
      clear h1 h2 h3 hyes hno hafter hk d1 hII
      gi_wp2
      refine ⟨trivial, (CallsIn.inRound l (callsIn_wide.2 HS.out)).mono ?_⟩
      rintro e w2 ⟨rfl, rfl⟩
      gi_wp2_with (gi_at_builtin; refine wpListIn_push_one _ rfl _ _ 42 rfl (w.heap.size + 1 + 1) 3 i0 _ 8 Tryd.underlying42 HI0.out.1 HI0.out.2.1 HI0.out.2.2.1 HI0.out.2.2.2 rfl (.slice A3 zs.length c3) zs.length _ rfl HO.out ⟨W.heap.size, 0, none⟩ 1 (.int .i64 I) rfl (Blk.cell (Blk.new _ _ _) 0) rfl (by omega) (by omega) (by simp only [World.size_alloc]; omega) ?_; intro A' c' w3 hown3 hg3 hat3; have q3 := (HA9.out w3 hg3).1; have q4 := (HA9.out w3 hg3).2)
      obtain ⟨r1, r2⟩ := hold_push HB.out.1 HB.out.2.1 HB.out.2.2.1 (by omega) rfl hown3 hg3
      refine ⟨(((KeepsOthers.alloc _ _).trans (keepsOwn HO.out hg3)).trans (KeepsOthers.setCell _ _ _)).from _, Still.of_kept r2 (fun k hk hb => by have hk : w.heap.size + 1 ≤ k := hk; have := HU.out.2.2.2.2; omega), ?_⟩
      show HoldI (w.heap.size + 1) U (placesL (pickK key (pre ++ [(i, ⟨sd, ky, th⟩)]))) _
      rw [HY.out, HB.out.2.2.2]
      exact r1
    · have d1 : decide (ky = key) = false := by simpa using hk
      have HB := Lib.hid (And.intro (show HoldI (w.heap.size + 1) U zs W from ⟨h1, A3, c3, h2, h3⟩) (hno hk))
      rw [d1] at HS
      clear h1 h2 h3 hyes hno hk d1 hII
      gi_wp2
      refine ⟨trivial, (CallsIn.inRound l (callsIn_wide.2 HS.out)).mono ?_⟩
      rintro e w2 ⟨rfl, rfl⟩
      gi_wp2
      refine ⟨(keeps_grown (World.grownBy.refl W none)).from _, Still.refl _ _ _, ?_⟩
      show HoldI (w.heap.size + 1) U (placesL (pickK key (pre ++ [(i, ⟨sd, ky, th⟩)]))) _
      rw [HY.out, HB.out.2]
      exact HB.out.1
  case done =>
    rintro Dd xs W hD hS hI hK
    subst hS
    have hlw : (placesL (pickK key (toldL W0))).length = (whoL W0 key).length := rfl
    obtain ⟨h1, A3, c3, h2, h3⟩ := hI
    have c16 := h2.cell 0
    simp only [List.getElem?_toArray, List.getElem?_cons_zero] at c16
    obtain ⟨ml, hml⟩ : ∃ ml, ml = (placesL (pickK key (toldL W0))).length := ⟨_, rfl⟩
    rw [← hml] at c16
    have HB := Lib.hid (And.intro h1 (And.intro h3 (And.intro hml (And.intro hK hD))))
    clear h1 h2 h3 hml hK hD hlw
    (try dsimp only)
    gi_wp2
    refine ⟨by simp, .inl ⟨_, _, rfl, run_takeDeferred HB.out.2.2.2.1, ?_⟩⟩
    obtain ⟨h1, h3, hml, hK, hD⟩ := HB.out
    have hp := Kept.of_grown (F := fun j => j = Dd) (grownBy_putObj' W Dd (.deferred none)) (fun j e => (Option.some.inj e).symm)
    have same := cells_same (grownBy_putObj' W Dd (.deferred none)) (fun r e => by cases e; exact ⟨_, hK, rfl⟩)
    obtain ⟨A5, c5, e5, hl5, hi5⟩ := own_ints (own_same h3 same)
    injection e5 with e1 e2 e3
    subst e1 e3
    exact ⟨_, results_tmp rfl _ _ _, A3, c3, by rw [hml]; rfl, hi5, hl5, (((Kept.of_grown (F := fun j => w.heap.size ≤ j) HU.out.1 fun _ e => by cases e).next h1 (fun k _ (h : w.heap.size + 1 ≤ k) => by show w.heap.size ≤ k; omega)).next hp (fun k _ h => by have h : k = Dd := h; have := HU.out.2.1; show w.heap.size ≤ k; omega)).grownNone (fun k hk (h : w.heap.size ≤ k) => by omega)⟩
end Go.Proofs.YthcilpfcdblmkaaDoor
