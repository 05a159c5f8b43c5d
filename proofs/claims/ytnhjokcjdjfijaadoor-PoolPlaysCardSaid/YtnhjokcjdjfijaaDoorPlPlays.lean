/-
  PoolPlays, walked.
-/
import Derived.Test.YtnhjokcjdjfijaaDoorPlCo
import Derived.Test.YtnhjokcjdjfijaaDoorPlV
import Derived.Test.YtnhjokcjdjfijaaDoorPlSomeW
import Derived.Sort.CutIn
namespace Go.Proofs.YtnhjokcjdjfijaaDoor
open Go.RowKit Go.Shelf

attribute [local go_sem] Oper.semAt_some

set_option maxRecDepth 100000 in
set_option maxHeartbeats 4000000 in
theorem plays_any (w : World) (E : Nat → Addr) (he : ErrEnv w w.heap.size E) (A : Option Addr) (n c : Nat) (zs : List OpV) (hn : zs.length = n) (hz : OpsAt w A zs) : Calls Tryd.prog 3 #[.slice A n c] w fun e w' => e = .returned (.bool true) ∧ w.grownBy w' none := by
  have HE := Lib.hid he
  have HY := Lib.hid (And.intro hn hz)
  obtain ⟨i0, hi0, hz0, hz1, hz2⟩ := info_parts str_info
  have HI0 := Lib.hid (And.intro hi0 (And.intro hz0 (And.intro hz1 hz2)))
  clear he hn hz hi0 hz0 hz1 hz2
  refine (callsIn_wide (n := 6)).1 ?_
  refine callsIn_of_wp_marks Tryd.func3 rfl trivial ?_ rfl
  simp only [Tryd.ntmps3, List.size_toArray, List.length_cons, List.length_nil, Nat.reduceAdd, Nat.reduceSub, Array.replicate_succ, Array.replicate_zero, List.push_toArray, List.append_toArray, List.nil_append, List.cons_append]
  gi_wp2
  refine ⟨trivial, ?_⟩
  refine (callsIn_wide.2 (alive_any w w.heap.size E (HE.out.vars [3, 7, 16] (by decide)) (Nat.le_refl _))).mono ?_
  rintro e w1 ⟨rfl, k1⟩
  have K1 := Lib.hid k1
  clear k1
  by_cases h80 : 80 < n
  · have d1 : decide ((80 : Int) < (n : Int)) = true := by simp; omega
    gi_wp2
    exact ⟨_, results_tmp rfl _ _ _, rfl, K1.out⟩
  have d0 : decide ((80 : Int) < (n : Int)) = false := by simp; omega
  have hn80 : n ≤ 80 := by omega
  clear h80
  gi_wp2
  refine ⟨trivial, ?_⟩
  refine (callsIn_wide.2 (pool_new _)).mono ?_
  rintro e w2 ⟨rfl, rfl⟩
  obtain ⟨p, hp⟩ : ∃ p, w1.heap.size = p := ⟨_, rfl⟩
  obtain ⟨w2, hw2⟩ : ∃ w2, (w1.alloc (.cells #[.slice none 0 0] 58)).alloc (.cells #[.slice none 0 0] 29) = w2 := ⟨_, rfl⟩
  have H2 : Hid (PlM w p (p + 1) (fun k => k = p) (fun k => k = p + 1) [] w2) := Lib.hid (by
    have ks := K1.out.size
    have hm : Blk w2 (p + 1) 29 #[.slice none 0 0] := by
      have h := Blk.new (w1.alloc (.cells #[.slice none 0 0] 58)) 29 #[.slice none 0 0]
      rw [World.size_alloc, hp, hw2] at h
      exact h
    have hz2 : w2.heap.size = p + 2 := by rw [← hw2, ← hp]; simp
    refine ⟨?_, ⟨rfl, none, 0, hm, World.ownsRow_nil _ _ _ _, fun _ e => by cases e⟩, fun k hk => by subst hk; omega, fun k hk => by subst hk; omega, Fine.nil, ?_⟩
    · rw [← hw2, ← hp]
      exact (PoolIs.new w1 (S := fun k => k = w1.heap.size) rfl).kept (Kept.of_grown (F := fun _ => False) (World.grownBy_alloc _ _ none) fun _ e => by cases e) (fun _ h => h.elim)
    · rw [← hw2]
      exact Kept.of_grown (F := fun k => w.heap.size ≤ k) (grown_trans K1.out (grown_trans (World.grownBy_alloc _ _ none) (World.grownBy_alloc _ _ none))) fun _ e => by cases e)
  rw [hp]
  gi_wp2
  clear hw2
  refine wpIn_loop (fun a' W => ∃ (Ds : List Nat) (u2 u6 u8 u9 u10 u11 u12 u14 u15 u16 u17 u28 u29 u30 u31 u32 u33 u34 u35 u36 u37 u38 u39 u40 u41 u42 u43 u44 u45 u46 u47 u48 u49 u50 u51 u52 u53 u54 u55 u56 u57 u58 u59 u60 u61 u62 u63 u64 u65 u66 u67 u68 u69 u70 u71 u72 u73 u74 u75 u76 u77 u78 u79 u80 u81 u82 u83 u84 u85 u86 u87 u88 u89 u90 u91 u92 u93 u94 u95 u96 u97 u98 u99 u100 u101 u102 u103 u104 u105 u106 u107 u108 u109 u110 u111 u112 u113 u114 u115 u116 u117 u118 u119 u120 u121 u122 u123 u124 u125 u126 u127 u128 u129 u130 u131 u132 u133 u134 u135 u136 u137 u138 u139 u140 u141 u142 u143 u144 u145 u146 u147 u148 u149 u150 u151 u152 u153 u154 u155 u156 u157 u158 u159 u160 u161 u162 u163 u164 u165 u166 u167 u168 u169 u170 u171 u172 u173 : Value), (∃ (k : Nat) (S Sm : Nat → Prop) (L : List (List UInt8)), k ≤ n ∧ u28 = .int .i64 (k : Int) ∧ PlM w p (p + 1) S Sm L W ∧ DsIn w.heap.size Ds S Sm W) ∧ a' = { tmps := #[.slice A n c, undef, u2, .pointer (some ⟨p, 0, none⟩), .pointer (some ⟨p + 1, 0, none⟩), undef, u6, undef, u8, u9, u10, u11, u12, undef, u14, u15, u16, u17, .bool true, .bool false, .slice A n c, .int .i64 (n : Int), .bool false, .pointer (some ⟨p, 0, none⟩), .agg #[.slice none 0 0], .pointer (some ⟨p + 1, 0, none⟩), .slice A n c, .int .i64 (n : Int), u28, u29, u30, u31, u32, u33, u34, u35, u36, u37, u38, u39, u40, u41, u42, u43, u44, u45, u46, u47, u48, u49, u50, u51, u52, u53, u54, u55, u56, u57, u58, u59, u60, u61, u62, u63, u64, u65, u66, u67, u68, u69, u70, u71, u72, u73, u74, u75, u76, u77, u78, u79, u80, u81, u82, u83, u84, u85, u86, u87, u88, u89, u90, u91, u92, u93, u94, u95, u96, u97, u98, u99, u100, u101, u102, u103, u104, u105, u106, u107, u108, u109, u110, u111, u112, u113, u114, u115, u116, u117, u118, u119, u120, u121, u122, u123, u124, u125, u126, u127, u128, u129, u130, u131, u132, u133, u134, u135, u136, u137, u138, u139, u140, u141, u142, u143, u144, u145, u146, u147, u148, u149, u150, u151, u152, u153, u154, u155, u156, u157, u158, u159, u160, u161, u162, u163, u164, u165, u166, u167, u168, u169, u170, u171, u172, u173], defers := dsOf Ds }) (fun a' _ => n - (intOf (a'.tmps.getD 28 undef)).toNat) ?start ?round
  case start =>
    refine ⟨[], ?_⟩
    (repeat apply Exists.intro)
    exact ⟨⟨0, _, _, [], by omega, rfl, H2.out, List.nodup_nil, fun _ h => by cases h⟩, rfl⟩
  case round =>
    intro _ wr hinv
    obtain ⟨Ds, hinv⟩ := hinv
    obtain ⟨u2, hinv⟩ := hinv
    obtain ⟨u6, hinv⟩ := hinv
    obtain ⟨u8, hinv⟩ := hinv
    obtain ⟨u9, hinv⟩ := hinv
    obtain ⟨u10, hinv⟩ := hinv
    obtain ⟨u11, hinv⟩ := hinv
    obtain ⟨u12, hinv⟩ := hinv
    obtain ⟨u14, hinv⟩ := hinv
    obtain ⟨u15, hinv⟩ := hinv
    obtain ⟨u16, hinv⟩ := hinv
    obtain ⟨u17, hinv⟩ := hinv
    obtain ⟨u28, hinv⟩ := hinv
    obtain ⟨u29, hinv⟩ := hinv
    obtain ⟨u30, hinv⟩ := hinv
    obtain ⟨u31, hinv⟩ := hinv
    obtain ⟨u32, hinv⟩ := hinv
    obtain ⟨u33, hinv⟩ := hinv
    obtain ⟨u34, hinv⟩ := hinv
    obtain ⟨u35, hinv⟩ := hinv
    obtain ⟨u36, hinv⟩ := hinv
    obtain ⟨u37, hinv⟩ := hinv
    obtain ⟨u38, hinv⟩ := hinv
    obtain ⟨u39, hinv⟩ := hinv
    obtain ⟨u40, hinv⟩ := hinv
    obtain ⟨u41, hinv⟩ := hinv
    obtain ⟨u42, hinv⟩ := hinv
    obtain ⟨u43, hinv⟩ := hinv
    obtain ⟨u44, hinv⟩ := hinv
    obtain ⟨u45, hinv⟩ := hinv
    obtain ⟨u46, hinv⟩ := hinv
    obtain ⟨u47, hinv⟩ := hinv
    obtain ⟨u48, hinv⟩ := hinv
    obtain ⟨u49, hinv⟩ := hinv
    obtain ⟨u50, hinv⟩ := hinv
    obtain ⟨u51, hinv⟩ := hinv
    obtain ⟨u52, hinv⟩ := hinv
    obtain ⟨u53, hinv⟩ := hinv
    obtain ⟨u54, hinv⟩ := hinv
    obtain ⟨u55, hinv⟩ := hinv
    obtain ⟨u56, hinv⟩ := hinv
    obtain ⟨u57, hinv⟩ := hinv
    obtain ⟨u58, hinv⟩ := hinv
    obtain ⟨u59, hinv⟩ := hinv
    obtain ⟨u60, hinv⟩ := hinv
    obtain ⟨u61, hinv⟩ := hinv
    obtain ⟨u62, hinv⟩ := hinv
    obtain ⟨u63, hinv⟩ := hinv
    obtain ⟨u64, hinv⟩ := hinv
    obtain ⟨u65, hinv⟩ := hinv
    obtain ⟨u66, hinv⟩ := hinv
    obtain ⟨u67, hinv⟩ := hinv
    obtain ⟨u68, hinv⟩ := hinv
    obtain ⟨u69, hinv⟩ := hinv
    obtain ⟨u70, hinv⟩ := hinv
    obtain ⟨u71, hinv⟩ := hinv
    obtain ⟨u72, hinv⟩ := hinv
    obtain ⟨u73, hinv⟩ := hinv
    obtain ⟨u74, hinv⟩ := hinv
    obtain ⟨u75, hinv⟩ := hinv
    obtain ⟨u76, hinv⟩ := hinv
    obtain ⟨u77, hinv⟩ := hinv
    obtain ⟨u78, hinv⟩ := hinv
    obtain ⟨u79, hinv⟩ := hinv
    obtain ⟨u80, hinv⟩ := hinv
    obtain ⟨u81, hinv⟩ := hinv
    obtain ⟨u82, hinv⟩ := hinv
    obtain ⟨u83, hinv⟩ := hinv
    obtain ⟨u84, hinv⟩ := hinv
    obtain ⟨u85, hinv⟩ := hinv
    obtain ⟨u86, hinv⟩ := hinv
    obtain ⟨u87, hinv⟩ := hinv
    obtain ⟨u88, hinv⟩ := hinv
    obtain ⟨u89, hinv⟩ := hinv
    obtain ⟨u90, hinv⟩ := hinv
    obtain ⟨u91, hinv⟩ := hinv
    obtain ⟨u92, hinv⟩ := hinv
    obtain ⟨u93, hinv⟩ := hinv
    obtain ⟨u94, hinv⟩ := hinv
    obtain ⟨u95, hinv⟩ := hinv
    obtain ⟨u96, hinv⟩ := hinv
    obtain ⟨u97, hinv⟩ := hinv
    obtain ⟨u98, hinv⟩ := hinv
    obtain ⟨u99, hinv⟩ := hinv
    obtain ⟨u100, hinv⟩ := hinv
    obtain ⟨u101, hinv⟩ := hinv
    obtain ⟨u102, hinv⟩ := hinv
    obtain ⟨u103, hinv⟩ := hinv
    obtain ⟨u104, hinv⟩ := hinv
    obtain ⟨u105, hinv⟩ := hinv
    obtain ⟨u106, hinv⟩ := hinv
    obtain ⟨u107, hinv⟩ := hinv
    obtain ⟨u108, hinv⟩ := hinv
    obtain ⟨u109, hinv⟩ := hinv
    obtain ⟨u110, hinv⟩ := hinv
    obtain ⟨u111, hinv⟩ := hinv
    obtain ⟨u112, hinv⟩ := hinv
    obtain ⟨u113, hinv⟩ := hinv
    obtain ⟨u114, hinv⟩ := hinv
    obtain ⟨u115, hinv⟩ := hinv
    obtain ⟨u116, hinv⟩ := hinv
    obtain ⟨u117, hinv⟩ := hinv
    obtain ⟨u118, hinv⟩ := hinv
    obtain ⟨u119, hinv⟩ := hinv
    obtain ⟨u120, hinv⟩ := hinv
    obtain ⟨u121, hinv⟩ := hinv
    obtain ⟨u122, hinv⟩ := hinv
    obtain ⟨u123, hinv⟩ := hinv
    obtain ⟨u124, hinv⟩ := hinv
    obtain ⟨u125, hinv⟩ := hinv
    obtain ⟨u126, hinv⟩ := hinv
    obtain ⟨u127, hinv⟩ := hinv
    obtain ⟨u128, hinv⟩ := hinv
    obtain ⟨u129, hinv⟩ := hinv
    obtain ⟨u130, hinv⟩ := hinv
    obtain ⟨u131, hinv⟩ := hinv
    obtain ⟨u132, hinv⟩ := hinv
    obtain ⟨u133, hinv⟩ := hinv
    obtain ⟨u134, hinv⟩ := hinv
    obtain ⟨u135, hinv⟩ := hinv
    obtain ⟨u136, hinv⟩ := hinv
    obtain ⟨u137, hinv⟩ := hinv
    obtain ⟨u138, hinv⟩ := hinv
    obtain ⟨u139, hinv⟩ := hinv
    obtain ⟨u140, hinv⟩ := hinv
    obtain ⟨u141, hinv⟩ := hinv
    obtain ⟨u142, hinv⟩ := hinv
    obtain ⟨u143, hinv⟩ := hinv
    obtain ⟨u144, hinv⟩ := hinv
    obtain ⟨u145, hinv⟩ := hinv
    obtain ⟨u146, hinv⟩ := hinv
    obtain ⟨u147, hinv⟩ := hinv
    obtain ⟨u148, hinv⟩ := hinv
    obtain ⟨u149, hinv⟩ := hinv
    obtain ⟨u150, hinv⟩ := hinv
    obtain ⟨u151, hinv⟩ := hinv
    obtain ⟨u152, hinv⟩ := hinv
    obtain ⟨u153, hinv⟩ := hinv
    obtain ⟨u154, hinv⟩ := hinv
    obtain ⟨u155, hinv⟩ := hinv
    obtain ⟨u156, hinv⟩ := hinv
    obtain ⟨u157, hinv⟩ := hinv
    obtain ⟨u158, hinv⟩ := hinv
    obtain ⟨u159, hinv⟩ := hinv
    obtain ⟨u160, hinv⟩ := hinv
    obtain ⟨u161, hinv⟩ := hinv
    obtain ⟨u162, hinv⟩ := hinv
    obtain ⟨u163, hinv⟩ := hinv
    obtain ⟨u164, hinv⟩ := hinv
    obtain ⟨u165, hinv⟩ := hinv
    obtain ⟨u166, hinv⟩ := hinv
    obtain ⟨u167, hinv⟩ := hinv
    obtain ⟨u168, hinv⟩ := hinv
    obtain ⟨u169, hinv⟩ := hinv
    obtain ⟨u170, hinv⟩ := hinv
    obtain ⟨u171, hinv⟩ := hinv
    obtain ⟨u172, hinv⟩ := hinv
    obtain ⟨u173, hinv⟩ := hinv
    obtain ⟨hrel, ha⟩ := hinv
    subst ha
    try dsimp only
    obtain ⟨k, S, Sm, L, hk, hi, hM, hDs⟩ := hrel
    obtain ⟨I, hI⟩ : ∃ I : Int, I = (k : Int) := ⟨_, rfl⟩
    rw [← hI] at hi
    subst hi
    by_cases hlt : k < n
    · have d1 : decide (I < (n : Int)) = true := by simp; omega
      have hkx : k < zs.length := by have := HY.out.1; omega
      have hops := HY.out.2.kept hM.2.2.2.2.2 (fun _ h => h)
      obtain ⟨b', off', e', hc'⟩ := HY.out.2 (by rintro rfl; simp at hkx)
      obtain ⟨b, off, rfl, hc⟩ := hops (by rintro rfl; simp at hkx)
      obtain ⟨hcell, _, _⟩ := hc k hkx
      obtain ⟨_, hbx0, hlx0⟩ := hc' k hkx
      generalize zs[k] = z at *
      obtain ⟨zk, zn, zT, zd, zx, zA, zc, zl⟩ := z
      simp only at hbx0 hlx0
      have hkI : I.toNat = k := by omega
      have x0 := hcell 0 _ rfl
      have x1 := hcell 1 _ rfl
      have x2 := hcell 2 _ rfl
      have x3 := hcell 3 _ rfl
      simp only [Nat.add_zero, ← hkI] at x0 x1 x2 x3
      have hI2 : 0 ≤ I ∧ I < (n : Int) := by omega
      obtain ⟨ob, hob⟩ : ∃ ob, wr.heap.size = ob := ⟨_, rfl⟩
      obtain ⟨W1, hW1⟩ : ∃ W1, wr.alloc (.cells #[.int .i64 zk, .int .i64 zn, .slice zT zx.length zd, .slice zA zl.length zc] 33) = W1 := ⟨_, rfl⟩
      have hX : Blk W1 ob 33 #[.int .i64 zk, .int .i64 zn, .slice zT zx.length zd, .slice zA zl.length zc] := by rw [← hW1, ← hob]; exact Blk.new _ _ _
      have hM1 : PlM w p (p + 1) S Sm L W1 := by rw [← hW1]; exact hM.grown (World.grownBy_alloc _ _ none)
      have hno : ¬ S ob ∧ ¬ Sm ob := ⟨fun h => by have := hM.2.2.1 ob h; omega, fun h => by have := hM.2.2.2.1 ob h; omega⟩
      have HZ := Lib.hid (And.intro hbx0 hlx0.lsIn)
      have HN := Lib.hid (And.intro hI (And.intro hlt (And.intro hM1 (And.intro hX hno))))
      have y2 := hX.cell 2
      have y3 := hX.cell 3
      simp only [List.getElem?_toArray, List.getElem?_cons_zero, List.getElem?_cons_succ] at y2 y3
      have hGw : w.grownBy W1 none := hM1.2.2.2.2.2.grownNone (fun k hk h => by omega)
      have HG := Lib.hid hGw
      have HDs := Lib.hid (hDs.far (W' := W1) (S' := S) (Sm' := Sm) (far_kept (F := fun _ => False) (by rw [← hW1]; exact Kept.of_grown (World.grownBy_alloc _ _ none) fun _ e => by cases e) (fun _ h => h.elim)))
      clear hDs
      clear hc hc' hcell hbx0 hlx0 hops e' hI hlt hkI hkx hM hk hno hM1 hX hGw
      gi_upto_region 9 with fail
      (try rw [hW1]); (try rw [hob])
      clear x0 x1 x2 x3 hW1 hob
      by_cases h100 : 100 < zx.length
      · have d2 : decide ((100 : Int) < (zx.length : Int)) = true := by simp; omega
        gi_wp2
        exact leaves_dsOf (fun W' hg => ⟨_, results_tmp rfl _ _ _, rfl, hg⟩) Ds _ HG.out HDs.out
      have d2 : decide ((100 : Int) < (zx.length : Int)) = false := by simp; omega
      by_cases h30 : 30 < zl.length
      · have d3 : decide ((30 : Int) < (zl.length : Int)) = true := by simp; omega
        gi_wp2
        exact leaves_dsOf (fun W' hg => ⟨_, results_tmp rfl _ _ _, rfl, hg⟩) Ds _ HG.out HDs.out
      have d3 : decide ((30 : Int) < (zl.length : Int)) = false := by simp; omega
      have HX := Lib.hid (And.intro (show zx.length ≤ 100 by omega) (show zl.length ≤ 30 by omega))
      clear h100 h30
      gi_wp2
      gi_loopw [45] (fun i V => ∃ j : Nat, j ≤ zl.length ∧ i = .int .i64 (j : Int) ∧ W1 = V) (fun i _ => zl.length - (intOf i).toNat)
      case atStart => exact ⟨0, by omega, rfl, rfl⟩
      case round =>
        obtain ⟨j, hj, hi, hV⟩ := hrel
        subst hV
        obtain ⟨J, hJ⟩ : ∃ J : Int, J = (j : Int) := ⟨_, rfl⟩
        rw [← hJ] at hi
        subst hi
        by_cases hjl : j < zl.length
        · have e1 : decide (J < (zl.length : Int)) = true := by simp; omega
          have hls := HZ.out.2.kept HN.out.2.2.1.2.2.2.2.2 (fun k (h : w.heap.size ≤ k) (h2 : k < w.heap.size) => by omega)
          obtain ⟨b2, off2, rfl, _, hc2⟩ := hls (by rintro rfl; simp at hjl)
          obtain ⟨B2, c2, q1, q2, q4⟩ := hc2 j hjl
          have hJJ : J.toNat = j := by omega
          obtain ⟨m2, hm2⟩ : ∃ m2, zl[j].length = m2 := ⟨_, rfl⟩
          have hJ2 : 0 ≤ J ∧ J < (zl.length : Int) := by omega
          have q3 : W1.cell? ⟨b2, off2 + J.toNat, none⟩ = some (.slice B2 m2 c2) := by rw [← hm2, hJJ]; exact q1
          have HJ := Lib.hid (And.intro hJ hjl)
          have hl30 := HX.out.2
          clear hJ q1 q2 q4 hc2 hls hJJ hm2 hjl hj
          by_cases hb : 100 < m2
          · have e2 : decide ((100 : Int) < (m2 : Int)) = true := by simp; omega
            gi_wp2
            exact leaves_dsOf (fun W' hg => ⟨_, results_tmp rfl _ _ _, rfl, hg⟩) Ds _ HG.out HDs.out
          · have e2 : decide ((100 : Int) < (m2 : Int)) = false := by simp; omega
            gi_wp2
            go_roundw
            case rel => exact ⟨j + 1, by have := HJ.out; omega, by rw [HJ.out.1]; rfl, by first | rfl | trivial⟩
            case measure => obtain ⟨hJ, hjl⟩ := HJ.out; simp [intOf]; omega
        · have e1 : decide (J < (zl.length : Int)) = false := by simp; omega
          clear hJ hjl hj
          gi_upto_region 18 with fail
          clear d2 d3 e1
          have y0 := HN.out.2.2.2.1.cell 0
          simp only [List.getElem?_toArray, List.getElem?_cons_zero] at y0
          gi_cut [54] from 200 (fun v54 wx => v54 = .int .i64 zk ∧ W1 = wx)
          case first =>
            gi_wp2
            gi_meet
            case rel => exact ⟨rfl, rfl⟩
          obtain ⟨rfl, rfl⟩ := hcut
          gi_step
          gi_cut [9] from 200 (fun v9 wx => v9 = .bool true ∧ ∃ (S' Sm' : Nat → Prop) (L' : List (List UInt8)), PlM w p (p + 1) S' Sm' L' wx ∧ Far S Sm W1 S' Sm' wx)
          case first =>
            rename_i J8 K8 hJ8 hK8
            have y0 := HN.out.2.2.2.1.cell 0
            have y1 := HN.out.2.2.2.1.cell 1
            simp only [List.getElem?_toArray, List.getElem?_cons_zero, List.getElem?_cons_succ] at y0 y1
            have hw : (zk == 1) = true ∨ ((zk == 1) = false ∧ (zk == 2) = true) ∨ ((zk == 1) = false ∧ (zk == 2) = false ∧ (zk == 3) = true) ∨ ((zk == 1) = false ∧ (zk == 2) = false ∧ (zk == 3) = false) := by
              simp only [beq_iff_eq, beq_eq_false_iff_ne, ne_eq]; omega
            rcases hw with q1 | ⟨q1, q2⟩ | ⟨q1, q2, q3⟩ | ⟨q1, q2, q3⟩
            · skip
              have hB1 : BytesAt W1 zT zx := HZ.out.1.low HN.out.2.2.1.2.2.2.2.2 (fun _ h => h)
              have hx100 := HX.out.1
              have HC := Lib.hid (nbytes_is W1 zT zx.length zd zx hB1 rfl (by omega))
              clear hB1 hx100
              gi_wp2
              refine ⟨trivial, ?_⟩
              refine (callsIn_wide.2 HC.out).mono ?_
              rintro e W2 ⟨g, cap, rfl, hg, hmk, k2⟩
              have hM2 := HN.out.2.2.1.grown k2
              have hX2 := HN.out.2.2.2.1.grown k2 (by simp)
              have hB2 : BytesAt W2 zT zx := HZ.out.1.low hM2.2.2.2.2.2 (fun _ h => h)
              have hg2 : ¬ S g ∧ ¬ Sm g := ⟨fun h => by have := HN.out.2.2.1.2.2.1 g h; omega, fun h => by have := HN.out.2.2.1.2.2.2.1 g h; omega⟩
              have hgo : g ≠ ob := fun e => by have := HN.out.2.2.2.1.lt; omega
              have HG9 := Lib.hid hgo
              clear hgo
              have HA := Lib.hid (And.intro hM2 (And.intro hX2 (And.intro hB2 (And.intro hg2 (And.intro hmk (And.intro hg k2))))))
              clear hM2 hX2 hB2 hg2 hmk hg k2 y0 y1 y2 y3
              gi_upto_region 21 with fail
              gi_cut [9] from 200 (fun v9 wx => v9 = .bool true ∧ ∃ (S' Sm' : Nat → Prop) (L' : List (List UInt8)), PlM w p (p + 1) S' Sm' L' wx ∧ Far S Sm W1 S' Sm' wx ∧ (¬ S' g ∧ ¬ Sm' g) ∧ Marked wx g cap zx)
              case first =>
                rename_i J8 K8 hJ8 hK8
                refine wpIn_mono (Q := fun e a' w' => e = .normal ∧ K8 a' w') ?reg (by rintro e a' w' ⟨rfl, h⟩; exact h)
                case reg =>
                  have hs : ∀ V, Blk V ob 33 #[.int .i64 zk, .int .i64 zn, .slice zT zx.length zd, .slice zA zl.length zc] → BytesAt V zT zx → V.cell? ⟨ob, 2, none⟩ = some (.slice zT zx.length zd) ∧ Sem.run Tryd.prog (convert 30 9 (.slice zT zx.length zd)) V = .ok (.string ⟨zx.toArray⟩) V := fun V h1 h2 => ⟨h1.cell 2, str_any h2 rfl⟩
                  have HS := Lib.hid hs
                  have hMd := HA.out.1.grown (grown_drew (World.grownBy.refl W2 none))
                  have hXd := HA.out.2.1.grown (grown_drew (World.grownBy.refl W2 none)) (by simp)
                  have hBd := HA.out.2.2.1.grown (grown_drew (World.grownBy.refl W2 none)) (by simp)
                  have hmd := HA.out.2.2.2.2.1.grown (grown_drew (World.grownBy.refl W2 none)) (by simp)
                  obtain ⟨V2, hV2⟩ : ∃ V2, W2.drew = V2 := ⟨_, rfl⟩
                  rw [hV2] at hMd hXd hBd hmd
                  have hVs : V2.heap.size = W2.heap.size := by rw [← hV2]; rfl
                  have HD := Lib.hid (And.intro hMd (And.intro hXd (And.intro hBd hmd)))
                  clear hMd hXd hBd hmd hs
                  refine wpIn_region_held_wide (S := fun V => V.cell? ⟨ob, 2, none⟩ = some (.slice zT zx.length zd) ∧ Sem.run Tryd.prog (convert 30 9 (.slice zT zx.length zd)) V = .ok (.string ⟨zx.toArray⟩) V) (by kernel_rfl) (by kernel_rfl) (by rintro ⟨_, _, h, _⟩; cases h) (by rw [hV2]; exact HS.out V2 HD.out.2.1 HD.out.2.2.1) (fun hHeld => ?_)
                  rw [hV2] at hHeld ⊢
                  refine wpAnyH_take (i := 0) (oi := _) (v := ?va0) rfl (by kernel_rfl) (by kernel_rfl) (by kernel_rfl) (fun _ _ _ h => by cases h.1) (Or.inl ⟨by rfl, ?hya0⟩) (by assumption) ?resta0
                  case hya0 => (intro V hSw; (try dsimp only at hSw); go_simp) <;> with_reducible rfl
                  simp only [Act.put, List.getElem_toArray, List.getElem_cons_zero, List.setIfInBounds_toArray, List.set_cons_zero, List.set_cons_succ]
                  refine wpAnyH_take (i := 1) (oi := _) (v := ?va1) rfl (by kernel_rfl) (by kernel_rfl) (by kernel_rfl) (fun _ _ _ h => by cases h.1) (Or.inl ⟨by rfl, ?hya1⟩) (by assumption) ?resta1
                  case hya1 => (intro V hSw; (try dsimp only at hSw); go_simp) <;> with_reducible rfl
                  simp only [Act.put, List.getElem_toArray, List.getElem_cons_succ, List.getElem_cons_zero, List.setIfInBounds_toArray, List.set_cons_zero, List.set_cons_succ]
                  refine wpAnyH_take (i := 4) (oi := _) (v := ?va4) rfl (by kernel_rfl) (by kernel_rfl) (by kernel_rfl) (fun _ _ _ h => by cases h.1) (Or.inl ⟨by rfl, ?hya4⟩) (by assumption) ?resta4
                  case hya4 => (intro V hSw; (try dsimp only at hSw); go_simp) <;> with_reducible rfl
                  simp only [Act.put, List.getElem_toArray, List.getElem_cons_succ, List.getElem_cons_zero, List.setIfInBounds_toArray, List.set_cons_zero, List.set_cons_succ]
                  refine wpAnyH_take (i := 5) (oi := _) (v := ?va5) rfl (by kernel_rfl) (by kernel_rfl) (by kernel_rfl) (fun _ _ _ h => by cases h.1) (Or.inl ⟨by rfl, ?hya5⟩) (by assumption) ?resta5
                  case hya5 => (intro V hSw; (try dsimp only at hSw); go_simp) <;> with_reducible rfl
                  simp only [Act.put, List.getElem_toArray, List.getElem_cons_succ, List.getElem_cons_zero, List.setIfInBounds_toArray, List.set_cons_zero, List.set_cons_succ]
                  refine wpAnyH_take (i := 6) (oi := _) (v := ?va6) rfl (by kernel_rfl) (by kernel_rfl) (by kernel_rfl) (fun _ _ _ h => by cases h.1) (Or.inl ⟨by rfl, ?hya6⟩) (by assumption) ?resta6
                  case hya6 => (intro V hSw; (try dsimp only at hSw); go_simp) <;> with_reducible rfl
                  simp only [Act.put, List.getElem_toArray, List.getElem_cons_succ, List.getElem_cons_zero, List.setIfInBounds_toArray, List.set_cons_zero, List.set_cons_succ]
                  refine wpAnyH_take (i := 7) (oi := _) (v := ?va7) rfl (by kernel_rfl) (by kernel_rfl) (by kernel_rfl) (fun _ _ _ h => by cases h.1) (Or.inl ⟨by rfl, ?hya7⟩) (by assumption) ?resta7
                  case hya7 => (intro V hSw; (try dsimp only at hSw); go_simp) <;> with_reducible rfl
                  simp only [Act.put, List.getElem_toArray, List.getElem_cons_succ, List.getElem_cons_zero, List.setIfInBounds_toArray, List.set_cons_zero, List.set_cons_succ]
                  refine wpAnyH_ready (rs := [2]) (by kernel_rfl) (by simp) ?_
                  refine AllReadyH.cons (o := _) rfl (fun K9 hK => ?_) AllReadyH.nil
                  go_simp
                  have hgE := (HD.out.1.2.2.2.2.2).grownNone (fun k h1 (h2 : w.heap.size ≤ k) => by omega)
                  refine (pool_add V2 S p L w.heap.size E HD.out.1.1 (by have := HD.out.1.2.2.2.2.1.1; omega) (some ⟨g, 0, none⟩) cap zx HD.out.2.2.2.bytes ((HE.out.grown hgE (by simp)).vars [3, 7, 16] (by decide)) (fun k h => (HD.out.1.2.2.1 k h).1)).mono ?_
                  rintro e w3 ⟨rfl, h3, k3⟩
                  have hgE3 : w.grownBy w3 none := (HD.out.1.2.2.2.2.2.next k3 (fun k _ h => (HD.out.1.2.2.1 k h).1)).grownNone (fun k h1 (h2 : w.heap.size ≤ k) => by omega)
                  have hX3 := HD.out.2.1.kept k3 HN.out.2.2.2.2.1
                  have hB3 : BytesAt w3 zT zx := HZ.out.1.low (HD.out.1.2.2.2.2.2.next k3 (fun k _ h => (HD.out.1.2.2.1 k h).1)) (fun _ h => h)
                  have hm3 := HD.out.1.2.1.kept k3 (fun k h1 h2 => (HD.out.1.2.2.2.1 k h2).2.2 h1)
                  have H3 := Lib.hid (And.intro h3 (And.intro k3 (And.intro hgE3 (And.intro hX3 (And.intro hB3 hm3)))))
                  clear hgE h3 k3 hgE3 hX3 hB3 hm3
                  go_wp2_with fail
                  refine hK.out _ _ (HS.out w3 H3.out.2.2.2.1 H3.out.2.2.2.2.1) (fun hHeld => ?_)
                  clear hK K9
                  try simp only [Act.put, List.getElem_toArray, List.getElem_cons_succ, List.getElem_cons_zero, List.setIfInBounds_toArray, List.set_cons_zero, List.set_cons_succ]
                  refine wpAnyH_ready (rs := [3]) (by kernel_rfl) (by simp) ?_
                  refine AllReadyH.cons (o := _) rfl (fun K9 hK => ?_) AllReadyH.nil
                  go_simp
                  refine (num_is w3 w.heap.size E (HE.out.grown H3.out.2.2.1 (by simp)) (addE L zx) (addE_le L zx)).mono ?_
                  rintro e w4 ⟨rfl, k4⟩
                  have hX4 := H3.out.2.2.2.1.grown k4 (by simp)
                  have hB4 := H3.out.2.2.2.2.1.grown k4 (by simp)
                  have hm4 := H3.out.2.2.2.2.2.kept (Kept.of_grown (F := fun _ => False) k4 fun _ e => by cases e) (fun _ h => h.elim)
                  have H4 := Lib.hid (And.intro k4 (And.intro hX4 (And.intro hB4 hm4)))
                  clear k4 hX4 hB4 hm4
                  go_wp2_with fail
                  refine hK.out _ _ (HS.out w4 H4.out.2.1 H4.out.2.2.1) (fun hHeld => ?_)
                  clear hK K9
                  try simp only [Act.put, List.getElem_toArray, List.getElem_cons_succ, List.getElem_cons_zero, List.setIfInBounds_toArray, List.set_cons_zero, List.set_cons_succ]
                  refine wpAnyH_ready (rs := [8]) (by kernel_rfl) (by simp) ?_
                  refine AllReadyH.cons (o := _) rfl (fun K9 hK => ?_) AllReadyH.nil
                  go_simp
                  refine (rpool_add w4 Sm (p + 1) L H4.out.2.2.2 (by have := HD.out.1.2.2.2.2.1.1; omega) zx).mono ?_
                  rintro e w5 ⟨rfl, h5, k5⟩
                  have hX5 := H4.out.2.1.kept k5 HN.out.2.2.2.2.2
                  have hB5 : BytesAt w5 zT zx := HZ.out.1.low (((HD.out.1.2.2.2.2.2.next H3.out.2.1 (fun k _ h => (HD.out.1.2.2.1 k h).1)).next (Kept.of_grown (F := fun _ => False) H4.out.1 fun _ e => by cases e) (fun _ _ h => h.elim)).next k5 (fun k _ h => (HD.out.1.2.2.2.1 k h).1)) (fun _ h => h)
                  have H5 := Lib.hid (And.intro h5 (And.intro k5 (And.intro hX5 hB5)))
                  clear h5 k5 hX5 hB5
                  go_wp2_with fail
                  refine hK.out _ _ (HS.out w5 H5.out.2.2.1 H5.out.2.2.2) (fun hHeld => ?_)
                  clear hK K9
                  try simp only [Act.put, List.getElem_toArray, List.getElem_cons_succ, List.getElem_cons_zero, List.setIfInBounds_toArray, List.set_cons_zero, List.set_cons_succ]
                  refine wpAnyH_take (i := 9) (oi := _) (v := ?va9) rfl (by kernel_rfl) (by kernel_rfl) (by kernel_rfl) (fun _ _ _ h => by cases h.1) (Or.inl ⟨by rfl, ?hya9⟩) (by assumption) ?resta9
                  case hya9 => (intro V hSw; (try dsimp only at hSw); go_simp) <;> with_reducible rfl
                  simp only [Act.put, List.getElem_toArray, List.getElem_cons_succ, List.getElem_cons_zero, List.setIfInBounds_toArray, List.set_cons_zero, List.set_cons_succ]
                  refine wpAnyH_take (i := 10) (oi := _) (v := ?va10) rfl (by kernel_rfl) (by kernel_rfl) (by kernel_rfl) (fun _ _ _ h => by cases h.1) (Or.inl ⟨by rfl, ?hya10⟩) (by assumption) ?resta10
                  case hya10 => (intro V hSw; (try dsimp only at hSw); go_simp) <;> with_reducible rfl
                  simp only [Act.put, List.getElem_toArray, List.getElem_cons_succ, List.getElem_cons_zero, List.setIfInBounds_toArray, List.set_cons_zero, List.set_cons_succ]
                  have hst := HD.out.1.step H3.out.1 H3.out.2.1 H4.out.1 H5.out.1 H5.out.2.1 (HD.out.1.2.2.2.2.1.add zx)
                  have hsz3 := H3.out.2.1.size
                  have hsz4 := H4.out.1.size
                  have hng : ∀ j, j < V2.heap.size → ¬ S j → ¬ Sm j → ¬ upTo S V2.heap.size w3.heap.size j ∧ ¬ upTo Sm w4.heap.size w5.heap.size j := fun j hj h1 h2 => ⟨fun h => by
                    rcases h with h | h
                    · exact h1 h
                    · omega, fun h => by
                    rcases h with h | h
                    · exact h2 h
                    · omega⟩
                  have hgl := HD.out.2.2.2.lt
                  have hfar := (far_step H3.out.2.1 H4.out.1 H5.out.2.1).before (W0 := W1) (by rw [← hV2]; exact grown_drew HA.out.2.2.2.2.2.2)
                  have hol := HD.out.2.1.lt
                  have hmk5 : Marked w5 g cap zx := by
                    obtain ⟨cs, m1, m2⟩ := HD.out.2.2.2
                    exact ⟨cs, ((m1.kept H3.out.2.1 HA.out.2.2.2.1.1).grown H4.out.1 (by simp)).kept H5.out.2.1 HA.out.2.2.2.1.2, m2⟩
                  refine wpAnyH_done (by kernel_rfl) ?_ _
                  refine ⟨rfl, hK8 _ _ (Met.intro (hJ8 _ _ ?_))⟩
                  (repeat apply Exists.intro)
                  exact ⟨⟨rfl, _, _, _, hst, hfar, hng g hgl HA.out.2.2.2.1.1 HA.out.2.2.2.1.2, hmk5⟩, rfl⟩
              case rest =>
                obtain ⟨rfl, S3, Sm3, L3, hM3, hX3, hg3, hk3⟩ := hcut
                have H3 := Lib.hid (And.intro hM3 (And.intro hX3 (And.intro hg3 hk3)))
                have hx100 := HX.out.1
                have hgw : w.heap.size ≤ g := by have h1 := HA.out.2.2.2.2.2.1; have h2 := HN.out.2.2.1.2.2.2.2.2.size; omega
                clear hM3 hX3 hg3 hk3
                gi_wp2
                gi_loopw [72] (fun i V => ∃ j : Nat, j ≤ zx.length ∧ i = .int .i64 (j : Int) ∧ Soft V g ∧ (∀ cs, Blk V g 5 cs → cs.size = cap) ∧ Kept (fun k => k = g) wc V) (fun i _ => zx.length - (intOf i).toNat)
                case atStart =>
                  obtain ⟨cs, m1, m2, m3, _⟩ := H3.out.2.2.2
                  exact ⟨0, by omega, rfl, ⟨cs, m1⟩, fun cs' h => by
                    have := Option.some.inj (m1.symm.trans h)
                    injection this with h1
                    rw [← h1]; exact m2, Kept.refl _ _⟩
                case round =>
                  obtain ⟨j, hj, hi, ⟨cs, hcs⟩, hsz, hK⟩ := hrel
                  obtain ⟨J, hJ⟩ : ∃ J : Int, J = (j : Int) := ⟨_, rfl⟩
                  rw [← hJ] at hi
                  subst hi
                  by_cases hjl : j < zx.length
                  · have e1 : decide (J < (zx.length : Int)) = true := by simp; omega
                    have hJ2 : 0 ≤ J ∧ J < (zx.length : Int) := by omega
                    have hcap : j < cs.size := by have h1 := hsz cs hcs; have h2 := H3.out.2.2.2.cap_le; omega
                    have f0 := hcs.frozen J.toNat
                    have v0 : (wr).cell? ⟨g, J.toNat, none⟩ = some (cs[j]'hcap) := by
                      have h := hcs.cell j
                      rw [Array.getElem?_eq_getElem hcap] at h
                      rw [show J.toNat = j by omega]; exact h
                    have hset := hcs.set J.toNat (.int .u8 99)
                    have hKs : Kept (fun k => k = g) wc (World.setCell (wr) ⟨g, J.toNat, none⟩ (.int .u8 99)) := hK.set (p := ⟨g, J.toNat, none⟩) (.inl rfl) _
                    have hszs : ∀ cs', Blk (World.setCell (wr) ⟨g, J.toNat, none⟩ (.int .u8 99)) g 5 cs' → cs'.size = cap := fun cs' h => by
                      have := Option.some.inj (hset.symm.trans h)
                      injection this with h1
                      rw [← h1, Array.size_setIfInBounds]; exact hsz cs hcs
                    have HJ := Lib.hid (And.intro hJ (And.intro hjl (And.intro (show Soft _ g from ⟨_, hset⟩) (And.intro hszs hKs))))
                    generalize cs[j]'hcap = v9 at v0
                    clear hJ hjl hcs hsz hK hset hKs hszs hcap hj
                    gi_wp2
                    go_roundw
                    case rel => exact ⟨j + 1, by have := HJ.out; omega, by rw [HJ.out.1]; rfl, HJ.out.2.2.1, HJ.out.2.2.2.1, HJ.out.2.2.2.2⟩
                    case measure => obtain ⟨hJ, hjl, _⟩ := HJ.out; simp [intOf]; omega
                  · have e1 : decide (J < (zx.length : Int)) = false := by simp; omega
                    have HK := Lib.hid hK
                    clear hJ hjl hj hcs hsz hK
                    gi_wp2
                    gi_meet
                    case rel => exact ⟨rfl, S3, Sm3, L3, H3.out.1.kept HK.out (fun k h => by have h : k = g := h; subst h; exact ⟨hgw, H3.out.2.2.1⟩), H3.out.2.1.after HK.out (fun k h => by have h : k = g := h; have := HA.out.2.2.2.2.2.1; omega)⟩
            · skip
              have hls := HZ.out.2.kept HN.out.2.2.1.2.2.2.2.2 (fun k (h : w.heap.size ≤ k) (h2 : k < w.heap.size) => by omega)
              have HC := Lib.hid (pool_take W1 S (fun k => k < w.heap.size) p L HN.out.2.2.1.1 (by have := HN.out.2.2.1.2.2.2.2.1.1; omega) HN.out.2.2.1.2.2.2.2.1.small zn zA zl.length zc zl rfl (by have := HX.out.2; omega) hls (fun k h => by have := HN.out.2.2.1.2.2.2.2.2.size; omega))
              clear hls
              gi_wp2
              refine ⟨trivial, ?_⟩
              refine (callsIn_wide.2 HC.out).mono ?_
              rintro e W2 ⟨At, ct, zt, rfl, hr, hst, k2⟩
              obtain ⟨Tk, hTk⟩ : ∃ T, takeL zn zl L = T := ⟨_, rfl⟩
              rw [hTk] at hr hst ⊢
              have hTl : Tk.length ≤ 16 := by
                have h1 := HN.out.2.2.1.2.2.2.2.1.1
                have h2 := dropL_le L zl L.length
                rw [List.take_length] at h2
                rw [← hTk, takeL, List.length_take]
                omega
              have hM2 := HN.out.2.2.1.grown k2
              have hX2 := HN.out.2.2.2.1.grown k2 (by simp)
              have hr2 : RowS W2 (fun b => W1.heap.size ≤ b ∧ b < W2.heap.size) At Tk.length ct zt := hr.mono (fun k hk h => ⟨h, hk⟩)
              have hb2 : zt.map (·.2) = Tk := hst
              have HA := Lib.hid (And.intro hM2 (And.intro hX2 (And.intro hr2 (And.intro hb2 (And.intro hTl (And.intro hTk k2))))))
              clear hM2 hX2 hr2 hb2 hTl hr hst hTk k2 y0 y1 y2 y3
              gi_upto_region 29 with fail
              gi_cut [9] from 200 (fun v9 wx => v9 = .bool true ∧ W2.grownBy wx none)
              case first =>
                rename_i J8 K8 hJ8 hK8
                refine wpIn_mono (Q := fun e a' w' => e = .normal ∧ K8 a' w') ?reg (by rintro e a' w' ⟨rfl, h⟩; exact h)
                case reg =>
                  have hs : ∀ V, W2.grownBy V none → V.cell? ⟨ob, 1, none⟩ = some (.int .i64 zn) ∧ V.cell? ⟨ob, 3, none⟩ = some (.slice zA zl.length zc) := fun V h => ⟨(HA.out.2.1.grown h (by simp)).cell 1, (HA.out.2.1.grown h (by simp)).cell 3⟩
                  have HS := Lib.hid hs
                  have g0 := grown_drew (World.grownBy.refl W2 none)
                  obtain ⟨V2, hV2⟩ : ∃ V2, W2.drew = V2 := ⟨_, rfl⟩
                  rw [hV2] at g0
                  have G0 := Lib.hid g0
                  clear hs g0
                  refine wpIn_region_held_wide (S := fun V => V.cell? ⟨ob, 1, none⟩ = some (.int .i64 zn) ∧ V.cell? ⟨ob, 3, none⟩ = some (.slice zA zl.length zc)) (by kernel_rfl) (by kernel_rfl) (by rintro ⟨_, _, h, _⟩; cases h) (by rw [hV2]; exact HS.out V2 G0.out) (fun hHeld => ?_)
                  rw [hV2] at hHeld ⊢
                  refine wpAnyH_take (i := 0) (oi := _) (v := ?vb0) rfl (by kernel_rfl) (by kernel_rfl) (by kernel_rfl) (fun _ _ _ h => by cases h.1) (Or.inl ⟨by rfl, ?hyb0⟩) (by assumption) ?restb0
                  case hyb0 => (intro V hSw; (try dsimp only at hSw); go_simp) <;> with_reducible rfl
                  simp only [Act.put, List.getElem_toArray, List.getElem_cons_zero, List.setIfInBounds_toArray, List.set_cons_zero, List.set_cons_succ]
                  refine wpAnyH_take (i := 2) (oi := _) (v := ?vb2) rfl (by kernel_rfl) (by kernel_rfl) (by kernel_rfl) (fun _ _ _ h => by cases h.1) (Or.inl ⟨by rfl, ?hyb2⟩) (by assumption) ?restb2
                  case hyb2 => (intro V hSw; (try dsimp only at hSw); go_simp) <;> with_reducible rfl
                  simp only [Act.put, List.getElem_toArray, List.getElem_cons_succ, List.getElem_cons_zero, List.setIfInBounds_toArray, List.set_cons_zero, List.set_cons_succ]
                  refine wpAnyH_take (i := 3) (oi := _) (v := ?vb3) rfl (by kernel_rfl) (by kernel_rfl) (by kernel_rfl) (fun _ _ _ h => by cases h.1) (Or.inl ⟨by rfl, ?hyb3⟩) (by assumption) ?restb3
                  case hyb3 => (intro V hSw; (try dsimp only at hSw); go_simp) <;> with_reducible rfl
                  simp only [Act.put, List.getElem_toArray, List.getElem_cons_succ, List.getElem_cons_zero, List.setIfInBounds_toArray, List.set_cons_zero, List.set_cons_succ]
                  refine wpAnyH_take (i := 4) (oi := _) (v := ?vb4) rfl (by kernel_rfl) (by kernel_rfl) (by kernel_rfl) (fun _ _ _ h => by cases h.1) (Or.inl ⟨by rfl, ?hyb4⟩) (by assumption) ?restb4
                  case hyb4 => (intro V hSw; (try dsimp only at hSw); go_simp) <;> with_reducible rfl
                  simp only [Act.put, List.getElem_toArray, List.getElem_cons_succ, List.getElem_cons_zero, List.setIfInBounds_toArray, List.set_cons_zero, List.set_cons_succ]
                  refine wpAnyH_take (i := 5) (oi := _) (v := ?vb5) rfl (by kernel_rfl) (by kernel_rfl) (by kernel_rfl) (fun _ _ _ h => by cases h.1) (Or.inl ⟨by rfl, ?hyb5⟩) (by assumption) ?restb5
                  case hyb5 => (intro V hSw; (try dsimp only at hSw); go_simp) <;> with_reducible rfl
                  simp only [Act.put, List.getElem_toArray, List.getElem_cons_succ, List.getElem_cons_zero, List.setIfInBounds_toArray, List.set_cons_zero, List.set_cons_succ]
                  refine wpAnyH_take (i := 6) (oi := _) (v := ?vb6) rfl (by kernel_rfl) (by kernel_rfl) (by kernel_rfl) (fun _ _ _ h => by cases h.1) (Or.inl ⟨by rfl, ?hyb6⟩) (by assumption) ?restb6
                  case hyb6 => (intro V hSw; (try dsimp only at hSw); go_simp) <;> with_reducible rfl
                  simp only [Act.put, List.getElem_toArray, List.getElem_cons_succ, List.getElem_cons_zero, List.setIfInBounds_toArray, List.set_cons_zero, List.set_cons_succ]
                  refine wpAnyH_ready (rs := [1]) (by kernel_rfl) (by simp) ?_
                  refine AllReadyH.cons (o := _) rfl (fun K9 hK => ?_) AllReadyH.nil
                  go_simp
                  have hls2 : LsAt V2 At Tk := by
                    have h := HA.out.2.2.1.ls
                    rw [HA.out.2.2.2.1] at h
                    exact h.grown G0.out
                  refine (texts_is V2 At Tk.length ct Tk rfl (by have := HA.out.2.2.2.2.1; omega) hls2).mono ?_
                  rintro e w3 ⟨A3, c3, rfl, h3, k3⟩
                  have H3 := Lib.hid (And.intro (strs_own h3) (And.intro k3 (grown_trans G0.out k3)))
                  clear h3 k3 hls2
                  go_wp2_with fail
                  refine hK.out _ _ (HS.out w3 H3.out.2.2) (fun hHeld => ?_)
                  clear hK K9
                  try simp only [Act.put, List.getElem_toArray, List.getElem_cons_succ, List.getElem_cons_zero, List.setIfInBounds_toArray, List.set_cons_zero, List.set_cons_succ]
                  refine wpAnyH_ready (rs := [7]) (by kernel_rfl) (by simp) ?_
                  refine AllReadyH.cons (o := _) rfl (fun K9 hK => ?_) AllReadyH.nil
                  go_simp
                  have hls3 : LsAt w3 zA zl := (HZ.out.2.kept (HA.out.1.grown H3.out.2.2).2.2.2.2.2 (fun k (h : w.heap.size ≤ k) (h2 : k < w.heap.size) => by omega)).ls
                  refine (texts_is w3 zA zl.length zc zl rfl (by have := HX.out.2; omega) hls3).mono ?_
                  rintro e w4 ⟨A4, c4, rfl, h4, k4⟩
                  have H4 := Lib.hid (And.intro (strs_own h4) (And.intro k4 (grown_trans H3.out.2.2 k4)))
                  clear h4 k4 hls3
                  go_wp2_with fail
                  refine hK.out _ _ (HS.out w4 H4.out.2.2) (fun hHeld => ?_)
                  clear hK K9
                  try simp only [Act.put, List.getElem_toArray, List.getElem_cons_succ, List.getElem_cons_zero, List.setIfInBounds_toArray, List.set_cons_zero, List.set_cons_succ]
                  refine wpAnyH_ready (rs := [8]) (by kernel_rfl) (by simp) ?_
                  refine AllReadyH.cons (o := _) rfl (fun K9 hK => ?_) AllReadyH.nil
                  go_simp
                  refine (rpool_take w4 Sm (p + 1) L (HA.out.1.grown H4.out.2.2).2.1 (by have := HN.out.2.2.1.2.2.2.2.1.1; omega) zn A4 zl.length c4 zl rfl (by have := HX.out.2; omega) H4.out.1).mono ?_
                  rintro e w5 ⟨A5, c5, rfl, h5, k5⟩
                  rw [HA.out.2.2.2.2.2.1] at h5 ⊢
                  have H5 := Lib.hid (And.intro (strs_own h5) (And.intro k5 (And.intro (grown_trans H4.out.2.2 k5) ((H3.out.1.grown H4.out.2.1).grown k5))))
                  clear h5 k5
                  go_wp2_with fail
                  refine hK.out _ _ (HS.out w5 H5.out.2.2.1) (fun hHeld => ?_)
                  clear hK K9
                  try simp only [Act.put, List.getElem_toArray, List.getElem_cons_succ, List.getElem_cons_zero, List.setIfInBounds_toArray, List.set_cons_zero, List.set_cons_succ]
                  refine wpAnyH_ready (rs := [9]) (by kernel_rfl) (by simp) ?_
                  refine AllReadyH.cons (o := _) rfl (fun K9 hK => ?_) AllReadyH.nil
                  go_simp
                  refine (sametexts_is w5 A3 A5 c3 c5 Tk.length Tk rfl (by have := HA.out.2.2.2.2.1; omega) H5.out.2.2.2 H5.out.1).mono ?_
                  rintro e w6 ⟨rfl, k6⟩
                  have H6 := Lib.hid (grown_trans H5.out.2.2.1 k6)
                  clear k6
                  go_wp2_with fail
                  refine hK.out _ _ (HS.out w6 H6.out) (fun hHeld => ?_)
                  clear hK K9
                  try simp only [Act.put, List.getElem_toArray, List.getElem_cons_succ, List.getElem_cons_zero, List.setIfInBounds_toArray, List.set_cons_zero, List.set_cons_succ]
                  refine wpAnyH_take (i := 10) (oi := _) (v := ?vb10) rfl (by kernel_rfl) (by kernel_rfl) (by kernel_rfl) (fun _ _ _ h => by cases h.1) (Or.inl ⟨by rfl, ?hyb10⟩) (by assumption) ?restb10
                  case hyb10 => (intro V hSw; (try dsimp only at hSw); go_simp) <;> with_reducible rfl
                  simp only [Act.put, List.getElem_toArray, List.getElem_cons_succ, List.getElem_cons_zero, List.setIfInBounds_toArray, List.set_cons_zero, List.set_cons_succ]
                  refine wpAnyH_done (by kernel_rfl) ?_ _
                  refine ⟨rfl, hK8 _ _ (Met.intro (hJ8 _ _ ?_))⟩
                  (repeat apply Exists.intro)
                  exact ⟨⟨rfl, H6.out⟩, rfl⟩
              case rest =>
                obtain ⟨rfl, hgc⟩ := hcut
                have hMc := HA.out.1.grown hgc
                have hXc := HA.out.2.1.grown hgc (by simp)
                have hRc : RowS wc (fun b => W1.heap.size ≤ b ∧ b < W2.heap.size) At Tk.length ct zt := HA.out.2.2.1.kept (Kept.of_grown (F := fun _ => False) hgc fun _ e => by cases e) (fun _ h => h.elim)
                have hlen : ∀ (B : Option Addr) (m cB j : Nat), (zt.map (·.1))[j]? = some (.slice B m cB) → m ≤ 16 := fun B m cB j hj => by
                  rw [List.getElem?_map] at hj
                  obtain ⟨z, hz1, hz2⟩ := Option.map_eq_some_iff.1 hj
                  have hzm := List.mem_of_getElem? hz1
                  obtain ⟨B', cB', e1, _⟩ := HA.out.2.2.1.2.2 z hzm
                  rw [e1] at hz2
                  injection hz2 with q1 q2 q3
                  have hT : z.2 ∈ Tk := by rw [← HA.out.2.2.2.1]; exact List.mem_map_of_mem hzm
                  rw [← HA.out.2.2.2.2.2.1, takeL] at hT
                  have := HA.out.1.2.2.2.2.1.2.1 z.2 (List.mem_filter.1 (List.mem_of_mem_take hT)).1
                  omega
                have HLN := Lib.hid hlen
                have hnt16 := HA.out.2.2.2.2.1
                obtain ⟨nt, hnt⟩ : ∃ nt, Tk.length = nt := ⟨_, rfl⟩
                rw [hnt] at hRc hnt16 ⊢
                have H3 := Lib.hid (And.intro hMc (And.intro hXc (And.intro hRc hgc)))
                clear hMc hXc hRc hgc hlen hnt
                gi_wp2
                gi_loopw [99] (fun i V => ∃ (k9 : Nat) (zs9 : List (Value × List UInt8)), k9 ≤ nt ∧ i = .int .i64 (k9 : Int) ∧ zs9.map (·.1) = zt.map (·.1) ∧ RowS V (fun b => W1.heap.size ≤ b ∧ b < W2.heap.size) At nt ct zs9 ∧ Kept (fun b => W1.heap.size ≤ b ∧ b < W2.heap.size) wc V) (fun i _ => nt - (intOf i).toNat)
                case atStart => exact ⟨0, zt, by omega, rfl, rfl, H3.out.2.2.1, Kept.refl _ _⟩
                case round =>
                  obtain ⟨k9, zs9, hk9, hi, hz9, hR9, hK9⟩ := hrel
                  obtain ⟨J, hJ⟩ : ∃ J : Int, J = (k9 : Int) := ⟨_, rfl⟩
                  rw [← hJ] at hi
                  subst hi
                  by_cases hjl : k9 < nt
                  · have e1 : decide (J < (nt : Int)) = true := by simp; omega
                    have hJ2 : 0 ≤ J ∧ J < (nt : Int) := by omega
                    obtain ⟨g, cap, hv⟩ := Joins.ownsRow_form hR9.1 (by omega)
                    have hA : At = some ⟨g, 0, none⟩ := by injection hv
                    subst hA
                    obtain ⟨B, cB, y, hy, hcell, hby, hbb⟩ := hR9.at hjl
                    obtain ⟨m, hm⟩ : ∃ m, y.length = m := ⟨_, rfl⟩
                    rw [hm] at hcell
                    have hl9 := hR9.length
                    have hzj : (zt.map (·.1))[k9]? = some (.slice B m cB) := by
                      rw [← hz9, List.getElem?_map, List.getElem?_eq_getElem (by omega)]
                      have h := own_cell hR9.1 (j := k9) (u := (zs9[k9]'(by omega)).1) (by rw [List.getElem?_map, List.getElem?_eq_getElem (by omega)]; rfl)
                      rw [hcell] at h
                      rw [Option.map_some, ← Option.some.inj h]
                    have hm16 := HLN.out B m cB k9 hzj
                    have hkJ : J.toNat = k9 := by omega
                    rw [← hkJ] at hcell
                    have HQ := Lib.hid (And.intro hJ (And.intro hjl (And.intro hz9 (And.intro hR9 (And.intro hK9 hzj)))))
                    clear hJ hjl hz9 hR9 hK9 hzj hy hby hbb hv hm hl9 hkJ hk9
                    gi_wp2
                    gi_loopw [105] (fun i V => ∃ (j : Nat) (zs8 : List (Value × List UInt8)), j ≤ m ∧ i = .int .i64 (j : Int) ∧ zs8.map (·.1) = zt.map (·.1) ∧ RowS V (fun b => W1.heap.size ≤ b ∧ b < W2.heap.size) (some ⟨g, 0, none⟩) nt ct zs8 ∧ Kept (fun b => W1.heap.size ≤ b ∧ b < W2.heap.size) wc V) (fun i _ => m - (intOf i).toNat)
                    case atStart => exact ⟨0, zs9, by omega, rfl, HQ.out.2.2.1, HQ.out.2.2.2.1, HQ.out.2.2.2.2.1⟩
                    case round =>
                      obtain ⟨j, zs8, hj, hi, hz8, hR8, hK8⟩ := hrel
                      obtain ⟨I8, hI8⟩ : ∃ I8 : Int, I8 = (j : Int) := ⟨_, rfl⟩
                      rw [← hI8] at hi
                      subst hi
                      by_cases hil : j < m
                      · have e2 : decide (I8 < (m : Int)) = true := by simp; omega
                        have hI82 : 0 ≤ I8 ∧ I8 < (m : Int) := by omega
                        obtain ⟨y8, l8, hb8, hs8⟩ := hR8.elem hz8 HQ.out.2.2.2.2.2
                        have hne : y8 ≠ [] := by rintro rfl; simp at l8; omega
                        obtain ⟨ad, hBe, hc8⟩ := hb8 hne
                        obtain ⟨b3, off3, rfl⟩ := addr_form (hc8 0 (by omega)) rfl
                        obtain ⟨hs1, hs2, hs3⟩ := hs8 _ hBe hne
                        simp only at hs1 hs2 hs3
                        obtain ⟨q8, hq8⟩ : ∃ q8 : Int, q8 = ((y8[j]'(by omega)).toNat : Int) := ⟨_, rfl⟩
                        have v0 := hc8 j (by omega)
                        rw [Go.WideShapes.add_plain, ← hq8, show j = I8.toNat by omega] at v0
                        have f0 : wr.frozen? ⟨b3, off3 + I8.toNat, none⟩ = false := by obtain ⟨cs3, hcs3⟩ := hs3; exact hcs3.frozen _
                        obtain ⟨v, hv⟩ := u8_any (q8 + 1)
                        obtain ⟨zs7, hz7, hR7⟩ := hR8.bump b3 (off3 + I8.toNat) hs2 v
                        have hK7 := hK8.set (p := ⟨b3, off3 + I8.toNat, none⟩) (.inl hs1) (.int .u8 v.toNat)
                        have HQ8 := Lib.hid (And.intro hI8 (And.intro hil (And.intro (hz7.trans hz8) (And.intro hR7 hK7))))
                        clear hI8 hil hz8 hR8 hK8 hz7 hR7 hK7 hs1 hs2 hs3 hs8 hc8 hb8 hne l8 hq8 hj
                        subst hBe
                        gi_wp2
                        go_roundw
                        case rel => exact ⟨j + 1, zs7, by have := HQ8.out; omega, by rw [HQ8.out.1]; rfl, HQ8.out.2.2.1, HQ8.out.2.2.2.1, HQ8.out.2.2.2.2⟩
                        case measure => obtain ⟨hJ, hjl, _⟩ := HQ8.out; simp [intOf]; omega
                      · have e2 : decide (I8 < (m : Int)) = false := by simp; omega
                        have HQ8 := Lib.hid (And.intro hz8 (And.intro hR8 hK8))
                        clear hI8 hil hz8 hR8 hK8 hj
                        gi_wp2
                        go_roundw
                        case rel => exact ⟨k9 + 1, zs8, by have := HQ.out; omega, by rw [HQ.out.1]; rfl, HQ8.out.1, HQ8.out.2.1, HQ8.out.2.2⟩
                        case measure => obtain ⟨hJ, hjl, _⟩ := HQ.out; simp [intOf]; omega
                  · have e1 : decide (J < (nt : Int)) = false := by simp; omega
                    have HK := Lib.hid hK9
                    clear hJ hjl hk9 hz9 hR9 hK9
                    gi_wp2
                    gi_meet
                    case rel =>
                      have hs0 := HN.out.2.2.1
                      refine ⟨rfl, S, Sm, L, H3.out.1.kept HK.out (fun k h => ?_), far_kept (((Kept.of_grown (F := fun b => W1.heap.size ≤ b) HA.out.2.2.2.2.2.2 fun _ e => by cases e).next (Kept.of_grown (F := fun _ => False) H3.out.2.2.2 fun _ e => by cases e) (fun _ _ h => h.elim)).next HK.out (fun k _ h => h.1)) (fun k h => h)⟩
                      have h1 := h.1
                      have h2 := hs0.2.2.2.2.2.size
                      exact ⟨by omega, fun h => by have := hs0.2.2.1 k h; omega, fun h => by have := hs0.2.2.2.1 k h; omega⟩
            · skip
              gi_upto_region 40 with fail
              refine wpIn_mono (Q := fun e a' w' => e = .normal ∧ K8 a' w') ?reg (by rintro e a' w' ⟨rfl, h⟩; exact h)
              case reg =>
                have hs : ∀ V, Blk V ob 33 #[.int .i64 zk, .int .i64 zn, .slice zT zx.length zd, .slice zA zl.length zc] → V.cell? ⟨ob, 3, none⟩ = some (.slice zA zl.length zc) := fun V h => h.cell 3
                have HS := Lib.hid hs
                have g0 := grown_drew (World.grownBy.refl W1 none)
                obtain ⟨V2, hV2⟩ : ∃ V2, W1.drew = V2 := ⟨_, rfl⟩
                rw [hV2] at g0
                have HD := Lib.hid (And.intro (HN.out.2.2.1.grown g0) (HN.out.2.2.2.1.grown g0 (by simp)))
                clear hs g0
                refine wpIn_region_held_wide (S := fun V => V.cell? ⟨ob, 3, none⟩ = some (.slice zA zl.length zc)) (by kernel_rfl) (by kernel_rfl) (by rintro ⟨_, _, h, _⟩; cases h) (by rw [hV2]; exact HS.out V2 HD.out.2) (fun hHeld => ?_)
                rw [hV2] at hHeld ⊢
                refine wpAnyH_take (i := 0) (oi := _) (v := ?vc0) rfl (by kernel_rfl) (by kernel_rfl) (by kernel_rfl) (fun _ _ _ h => by cases h.1) (Or.inl ⟨by rfl, ?hyc0⟩) (by assumption) ?restc0
                case hyc0 => (intro V hSw; (try dsimp only at hSw); go_simp) <;> with_reducible rfl
                simp only [Act.put, List.getElem_toArray, List.getElem_cons_zero, List.setIfInBounds_toArray, List.set_cons_zero, List.set_cons_succ]
                refine wpAnyH_take (i := 1) (oi := _) (v := ?vc1) rfl (by kernel_rfl) (by kernel_rfl) (by kernel_rfl) (fun _ _ _ h => by cases h.1) (Or.inl ⟨by rfl, ?hyc1⟩) (by assumption) ?restc1
                case hyc1 => (intro V hSw; (try dsimp only at hSw); go_simp) <;> with_reducible rfl
                simp only [Act.put, List.getElem_toArray, List.getElem_cons_succ, List.getElem_cons_zero, List.setIfInBounds_toArray, List.set_cons_zero, List.set_cons_succ]
                refine wpAnyH_take (i := 2) (oi := _) (v := ?vc2) rfl (by kernel_rfl) (by kernel_rfl) (by kernel_rfl) (fun _ _ _ h => by cases h.1) (Or.inl ⟨by rfl, ?hyc2⟩) (by assumption) ?restc2
                case hyc2 => (intro V hSw; (try dsimp only at hSw); go_simp) <;> with_reducible rfl
                simp only [Act.put, List.getElem_toArray, List.getElem_cons_succ, List.getElem_cons_zero, List.setIfInBounds_toArray, List.set_cons_zero, List.set_cons_succ]
                refine wpAnyH_take (i := 4) (oi := _) (v := ?vc4) rfl (by kernel_rfl) (by kernel_rfl) (by kernel_rfl) (fun _ _ _ h => by cases h.1) (Or.inl ⟨by rfl, ?hyc4⟩) (by assumption) ?restc4
                case hyc4 => (intro V hSw; (try dsimp only at hSw); go_simp) <;> with_reducible rfl
                simp only [Act.put, List.getElem_toArray, List.getElem_cons_succ, List.getElem_cons_zero, List.setIfInBounds_toArray, List.set_cons_zero, List.set_cons_succ]
                refine wpAnyH_take (i := 5) (oi := _) (v := ?vc5) rfl (by kernel_rfl) (by kernel_rfl) (by kernel_rfl) (fun _ _ _ h => by cases h.1) (Or.inl ⟨by rfl, ?hyc5⟩) (by assumption) ?restc5
                case hyc5 => (intro V hSw; (try dsimp only at hSw); go_simp) <;> with_reducible rfl
                simp only [Act.put, List.getElem_toArray, List.getElem_cons_succ, List.getElem_cons_zero, List.setIfInBounds_toArray, List.set_cons_zero, List.set_cons_succ]
                refine wpAnyH_take (i := 6) (oi := _) (v := ?vc6) rfl (by kernel_rfl) (by kernel_rfl) (by kernel_rfl) (fun _ _ _ h => by cases h.1) (Or.inl ⟨by rfl, ?hyc6⟩) (by assumption) ?restc6
                case hyc6 => (intro V hSw; (try dsimp only at hSw); go_simp) <;> with_reducible rfl
                simp only [Act.put, List.getElem_toArray, List.getElem_cons_succ, List.getElem_cons_zero, List.setIfInBounds_toArray, List.set_cons_zero, List.set_cons_succ]
                refine wpAnyH_ready (rs := [3]) (by kernel_rfl) (by simp) ?_
                refine AllReadyH.cons (o := _) rfl (fun K9 hK => ?_) AllReadyH.nil
                go_simp
                have hls2 : LsIn V2 (fun k => k < w.heap.size) zA zl := HZ.out.2.kept HD.out.1.2.2.2.2.2 (fun k (h : w.heap.size ≤ k) (h2 : k < w.heap.size) => by omega)
                refine (pool_drop V2 S (fun k => k < w.heap.size) p L HD.out.1.1 (by have := HD.out.1.2.2.2.2.1.1; omega) (fun k h => (HD.out.1.2.2.1 k h).2) zA zl.length zc zl rfl (by have := HX.out.2; omega) hls2 (fun k h1 h2 => by have := (HD.out.1.2.2.1 k h2).1; omega)).mono ?_
                rintro e w3 ⟨rfl, h3, k3⟩
                have hX3 := HD.out.2.kept k3 HN.out.2.2.2.2.1
                have hm3 := HD.out.1.2.1.kept k3 (fun k h1 h2 => (HD.out.1.2.2.2.1 k h2).2.2 h1)
                have hl3 := hls2.kept k3 (fun k h1 h2 => by have := (HD.out.1.2.2.1 k h1).1; omega)
                have H3 := Lib.hid (And.intro h3 (And.intro k3 (And.intro hX3 (And.intro hm3 hl3))))
                clear h3 k3 hX3 hm3 hl3 hls2
                go_wp2_with fail
                refine hK.out _ _ (HS.out w3 H3.out.2.2.1) (fun hHeld => ?_)
                clear hK K9
                try simp only [Act.put, List.getElem_toArray, List.getElem_cons_succ, List.getElem_cons_zero, List.setIfInBounds_toArray, List.set_cons_zero, List.set_cons_succ]
                refine wpAnyH_ready (rs := [7]) (by kernel_rfl) (by simp) ?_
                refine AllReadyH.cons (o := _) rfl (fun K9 hK => ?_) AllReadyH.nil
                go_simp
                refine (texts_is w3 zA zl.length zc zl rfl (by have := HX.out.2; omega) H3.out.2.2.2.2.ls).mono ?_
                rintro e w4 ⟨A4, c4, rfl, h4, k4⟩
                have hX4 := H3.out.2.2.1.grown k4 (by simp)
                have hm4 := H3.out.2.2.2.1.kept (Kept.of_grown (F := fun _ => False) k4 fun _ e => by cases e) (fun _ h => h.elim)
                have H4 := Lib.hid (And.intro (strs_own h4) (And.intro k4 (And.intro hX4 hm4)))
                clear h4 k4 hX4 hm4
                go_wp2_with fail
                refine hK.out _ _ (HS.out w4 H4.out.2.2.1) (fun hHeld => ?_)
                clear hK K9
                try simp only [Act.put, List.getElem_toArray, List.getElem_cons_succ, List.getElem_cons_zero, List.setIfInBounds_toArray, List.set_cons_zero, List.set_cons_succ]
                refine wpAnyH_ready (rs := [8]) (by kernel_rfl) (by simp) ?_
                refine AllReadyH.cons (o := _) rfl (fun K9 hK => ?_) AllReadyH.nil
                go_simp
                refine (rpool_drop w4 Sm (p + 1) L H4.out.2.2.2 (by have := HD.out.1.2.2.2.2.1.1; omega) A4 zl.length c4 zl rfl (by have := HX.out.2; omega) H4.out.1).mono ?_
                rintro e w5 ⟨rfl, h5, k5⟩
                have hX5 := H4.out.2.2.1.kept k5 HN.out.2.2.2.2.2
                have H5 := Lib.hid (And.intro h5 (And.intro k5 hX5))
                clear h5 k5 hX5
                go_wp2_with fail
                refine hK.out _ _ (HS.out w5 H5.out.2.2) (fun hHeld => ?_)
                clear hK K9
                try simp only [Act.put, List.getElem_toArray, List.getElem_cons_succ, List.getElem_cons_zero, List.setIfInBounds_toArray, List.set_cons_zero, List.set_cons_succ]
                refine wpAnyH_take (i := 9) (oi := _) (v := ?vc9) rfl (by kernel_rfl) (by kernel_rfl) (by kernel_rfl) (fun _ _ _ h => by cases h.1) (Or.inl ⟨by rfl, ?hyc9⟩) (by assumption) ?restc9
                case hyc9 => (intro V hSw; (try dsimp only at hSw); go_simp) <;> with_reducible rfl
                simp only [Act.put, List.getElem_toArray, List.getElem_cons_succ, List.getElem_cons_zero, List.setIfInBounds_toArray, List.set_cons_zero, List.set_cons_succ]
                refine wpAnyH_take (i := 10) (oi := _) (v := ?vc10) rfl (by kernel_rfl) (by kernel_rfl) (by kernel_rfl) (fun _ _ _ h => by cases h.1) (Or.inl ⟨by rfl, ?hyc10⟩) (by assumption) ?restc10
                case hyc10 => (intro V hSw; (try dsimp only at hSw); go_simp) <;> with_reducible rfl
                simp only [Act.put, List.getElem_toArray, List.getElem_cons_succ, List.getElem_cons_zero, List.setIfInBounds_toArray, List.set_cons_zero, List.set_cons_succ]
                have hst := HD.out.1.step (H3.out.1.mono (T := upTo S V2.heap.size w3.heap.size) (fun _ _ h => .inl h)) H3.out.2.1 H4.out.2.1 H5.out.1 H5.out.2.1 (HD.out.1.2.2.2.2.1.drop zl)
                refine wpAnyH_done (by kernel_rfl) ?_ _
                refine ⟨rfl, hK8 _ _ (Met.intro (hJ8 _ _ ?_))⟩
                (repeat apply Exists.intro)
                exact ⟨⟨rfl, _, _, _, hst, (far_step H3.out.2.1 H4.out.2.1 H5.out.2.1).before (W0 := W1) (by rw [← hV2]; exact grown_drew (World.grownBy.refl W1 none))⟩, rfl⟩
            · gi_wp2
              gi_meet
              case rel => exact ⟨rfl, S, Sm, L, HN.out.2.2.1, far_kept (F := fun _ => False) (Kept.refl _ _) (fun _ h => h.elim)⟩
          case rest =>
            obtain ⟨rfl, S2, Sm2, L2, hM2, hF2⟩ := hcut
            have hX2 := (hF2 ob _ HN.out.2.2.2.1 HN.out.2.2.2.2.1 HN.out.2.2.2.2.2).2
            have hn2 := (hF2 ob _ HN.out.2.2.2.1 HN.out.2.2.2.2.1 HN.out.2.2.2.2.2).1
            have hDs2 := HDs.out.far hF2
            have H2c := Lib.hid (And.intro hM2 (And.intro hX2 (And.intro hn2 hDs2)))
            clear hM2 hX2 hn2 hDs2 hF2
            gi_upto_region 42 with fail
            obtain ⟨r0, hr0⟩ : ∃ r0, wc.heap.size = r0 := ⟨_, rfl⟩
            obtain ⟨W4, hW4⟩ : ∃ W4, (wc.alloc (.cells #[] 9)).alloc (.cells #[.slice (some ⟨wc.heap.size, 0, none⟩) 0 0] 27) = W4 := ⟨_, rfl⟩
            have g4 : wc.grownBy W4 none := by rw [← hW4]; exact grown_trans (World.grownBy_alloc _ _ none) (World.grownBy_alloc _ _ none)
            have z4 : W4.heap.size = r0 + 2 := by rw [← hW4, ← hr0]; simp
            have b4 : Blk W4 (r0 + 1) 27 #[.slice (some ⟨r0, 0, none⟩) 0 0] := by
              have h := Blk.new (wc.alloc (.cells #[] 9)) 27 #[.slice (some ⟨wc.heap.size, 0, none⟩) 0 0]
              rw [World.size_alloc, hW4, hr0] at h
              exact h
            have o4 : W4.ownsRow r0 9 1 (.slice (some ⟨r0, 0, none⟩) 0 0) 0 [] := by
              have h := (World.ownsRow_made (base := r0) (e := 9) (size := 1) wc #[] 0 (by omega) (Nat.zero_le _) rfl).alloc (.cells #[.slice (some ⟨wc.heap.size, 0, none⟩) 0 0] 27)
              rw [hW4, hr0] at h
              exact h
            have G4 := Lib.hid (And.intro g4 (And.intro z4 (And.intro b4 o4)))
            have R0 := Lib.hid hr0
            (try rw [hW4])
            (try rw [hr0])
            clear hW4 g4 z4 b4 o4 hr0
            gi_wp2
            refine ⟨trivial, ?_⟩
            refine (all_in _ _ _ _ rfl).mono ?_
            rintro e w7 ⟨rfl, rfl⟩
            gi_wp2
            obtain ⟨W0, hW0⟩ : ∃ W0, W4.alloc (.cells #[.pointer (some ⟨p, 0, none⟩)] 24) = W0 := ⟨_, rfl⟩
            have g0 : W4.grownBy W0 none := by rw [← hW0]; exact World.grownBy_alloc _ _ none
            have z0 : W0.heap.size = r0 + 3 := by rw [← hW0, World.size_alloc, G4.out.2.1]
            have b0 : Blk W0 W4.heap.size 24 #[.pointer (some ⟨p, 0, none⟩)] := by rw [← hW0]; exact Blk.new _ _ _
            have gc0 := grown_trans G4.out.1 g0
            have hM0 := H2c.out.1.grown gc0
            have hst : CollI r0 W0 [] W0 := ⟨Kept.refl _ _, _, 0, G4.out.2.2.1.grown g0 (by simp), own_kept G4.out.2.2.2 (Kept.of_grown (F := fun _ => False) g0 fun _ e => by cases e) (fun _ _ h => h), fun ad e => by cases e; exact .inl rfl⟩
            (try rw [hW0])
            clear hW0
            have HW := Lib.hid (And.intro gc0 (And.intro z0 hM0))
            clear g0 gc0 z0 hM0
            refine wpIn_rangeFunc_told rfl (by omega) (gf := 30) (lb := #[.pointer (some ⟨W4.heap.size, 0, none⟩)]) rfl trivial (enters_of Tryd.func30 (by kernel_rfl) rfl)
              (all_seq 5 (by omega) W4.heap.size p S2 L2 (by have := HW.out.2.2.2.2.2.2.1.1; omega) HW.out.2.2.2.2.2.2.1.small W0 HW.out.2.2.1 b0) (fun h1 h2 => Still.trans h1 h2)
              (fun x W l o o' hl ho hc _ => Still.put ho hc) PhiT.mono (Below.refl _ _) (fun _ => rfl)
              (fun pre W => CollI r0 W0 pre W)
              (fun _ _ _ => False)
              (collI_own (fun pre => pre) (by have := HW.out.2.1; omega))
              (fun _ s W W' row h _ _ => h)
              hst
              (fun pre x a' W => a' = { tmps := #[.slice (some ⟨b, off, none⟩) n c, undef, u2, .pointer (some ⟨p, 0, none⟩), .pointer (some ⟨p + 1, 0, none⟩), undef, .pointer (some ⟨ob, 0, none⟩), undef, u8, .bool true, u10, u11, u12, undef, u14, u15, .pointer (some ⟨r0 + 1, 0, none⟩), .slice x.B x.x.length x.d, .bool true, .bool false, .slice (some ⟨b, off, none⟩) n c, .int .i64 (n : Int), .bool false, .pointer (some ⟨p, 0, none⟩), .agg #[.slice none 0 0], .pointer (some ⟨p + 1, 0, none⟩), .slice (some ⟨b, off, none⟩) n c, .int .i64 (n : Int), .int .i64 I, .bool true, .pointer (some ⟨b, off + I.toNat * 4, none⟩), .agg #[.int .i64 zk, .int .i64 zn, .slice zT zx.length zd, .slice zA zl.length zc], .pointer (some ⟨ob, 2, none⟩), .slice zT zx.length zd, .int .i64 (zx.length : Int), .bool false, .bool false, .pointer (some ⟨ob, 3, none⟩), .slice zA zl.length zc, .int .i64 (zl.length : Int), .bool false, .bool false, .pointer (some ⟨ob, 3, none⟩), .slice zA zl.length zc, .int .i64 (zl.length : Int), .int .i64 J, .bool false, u47, u48, u49, u50, u51, u52, u53, .int .i64 zk, u55, u56, u57, u58, u59, u60, u61, u62, u63, u64, u65, u66, u67, u68, u69, u70, u71, u72, u73, u74, u75, u76, u77, u78, u79, u80, u81, u82, u83, u84, u85, u86, u87, u88, u89, u90, u91, u92, u93, u94, u95, u96, u97, u98, u99, u100, u101, u102, u103, u104, u105, u106, u107, u108, u109, u110, u111, u112, u113, u114, u115, u116, u117, u118, u119, u120, u121, u122, u123, u124, u125, u126, u127, .slice (some ⟨r0, 0, none⟩) 0 0, .pointer (some ⟨p, 0, none⟩), .func (.func 30) #[] #[.pointer (some ⟨W4.heap.size, 0, none⟩)], .slice x.B x.x.length x.d, u132, u133, u134, u135, u136, u137, u138, u139, u140, u141, u142, u143, u144, u145, u146, u147, u148, u149, u150, u151, u152, u153, u154, u155, u156, u157, u158, u159, u160, u161, u162, u163, u164, u165, u166, u167, u168, u169, u170, u171, u172, u173], defers := [] } ∧ TxAt W0.heap.size L2 pre x W)
              (fun pre x a' => OwnFrom.and (ownFrom_pure _) txAt_own) ?assign ?body ?done ?stop
            case assign =>
              rintro l pre x W K hI hphi hK
              have HK := Lib.hid (hK _ W ((keeps_grown (World.grownBy.refl W none)).from _) (Still.refl _ _ _) hI ⟨rfl, hphi⟩)
              clear hK hI hphi
              simp only [txE]
              gi_wp2
              exact HK.out
            case stop => rintro Dd c' pre W _ _ h; exact h.elim
            case body =>
              rintro l pre x a' W hl0 hl1 hI ⟨rfl, hx⟩
              obtain ⟨h1, A3, c3, h2, h3, h4⟩ := hI
              have c16 := h2.cell 0
              simp only [List.getElem?_toArray, List.getElem?_cons_zero] at c16
              have hstr := str_any (c := x.d) hx.2.1 rfl
              have hpl : pre.length < 16 := by
                have h := (List.getElem?_eq_some_iff.1 hx.1).1
                have := HW.out.2.2.2.2.2.2.1.1
                omega
              have hz := HW.out.2.1
              have hAr : ∀ ad, A3 = some ad → ad.block ≠ r0 + 1 := fun ad e => by
                rcases h4 ad e with h | ⟨h, _⟩
                · omega
                · omega
              have hafter : ∀ W3, (W.alloc (.cells #[strV x.x] 9)).grownBy W3 (Value.slice A3 pre.length c3).ownBlock → W3.cell? ⟨r0 + 1, 0, none⟩ = some (.slice A3 pre.length c3) ∧ W3.frozen? ⟨r0 + 1, 0, none⟩ = false := fun W3 h => by
                have hb3 : Blk W3 (r0 + 1) 27 #[.slice A3 pre.length c3] := (h2.alloc _).grown h (fun e => by
                  obtain ⟨a, e1, e2⟩ := own_at e.symm
                  exact hAr a e1 e2)
                exact ⟨hb3.cell 0, hb3.frozen 0⟩
              have HA9 := Lib.hid hafter
              have HO := Lib.hid (h3.alloc (.cells #[strV x.x] 9))
              have HB := Lib.hid (And.intro h1 (And.intro h2 (And.intro h4 hx)))
              have hsW : r0 ≤ W.heap.size := by have := h1.size; omega
              clear h1 h2 h3 h4 hx hAr hafter hz
              gi_wp2_with (gi_at_builtin; refine wpListIn_push_one _ rfl _ _ 27 rfl r0 9 i0 _ 16 Tryd.underlying27 HI0.out.1 HI0.out.2.1 HI0.out.2.2.1 HI0.out.2.2.2 rfl (.slice A3 pre.length c3) pre.length _ rfl HO.out ⟨W.heap.size, 0, none⟩ 1 (strV x.x) rfl (Blk.cell (Blk.new _ _ _) 0) rfl (by omega) (by omega) (by simp only [World.size_alloc]; omega) ?_; intro A' c' w3 hown3 hg3 hat3; have q3 := (HA9.out w3 hg3).1; have q4 := (HA9.out w3 hg3).2)
              obtain ⟨r1, r2⟩ := coll_push HB.out.1 HB.out.2.1 HB.out.2.2.1 HB.out.2.2.2 (by have := HW.out.2.1; omega) rfl hown3 hg3 hat3
              exact ⟨(((KeepsOthers.alloc _ _).trans (keepsOwn HO.out hg3)).trans (KeepsOthers.setCell _ _ _)).from _, r2, r1⟩
            case done =>
              rintro Dd xs W hD hS hI hK
              obtain ⟨h1, A3, c3, h2, h3, _⟩ := hI
              have hxl : xs.length = L2.length := by rw [← hS, List.length_map]
              have hxm : (xs.map fun t => strV t.x) = L2.map strV := by rw [← hS, List.map_map]; rfl
              rw [hxm] at h3
              rw [hxl] at h2 h3
              have s3 := strs_own h3
              have hwr : w.heap.size ≤ r0 := by rw [← R0.out]; exact H2c.out.1.2.2.2.2.2.size
              have hF1 : ∀ k, r0 ≤ k → w.heap.size ≤ k ∧ ¬ S2 k ∧ ¬ Sm2 k := fun k hk => ⟨by omega, fun h => by have := (H2c.out.1.2.2.1 k h).2; have := R0.out; omega, fun h => by have := (H2c.out.1.2.2.2.1 k h).2.1; have := R0.out; omega⟩
              have hMW := HW.out.2.2.kept h1 hF1
              have hkW : Kept (fun k => r0 ≤ k) wc W := (Kept.of_grown (F := fun k => r0 ≤ k) HW.out.1 fun _ e => by cases e).next h1 (fun _ _ h => h)
              have hb2 : Blk wc ob 33 #[.int .i64 zk, .int .i64 zn, .slice zT zx.length zd, .slice zA zl.length zc] := H2c.out.2.1
              have hbW := hb2.kept hkW (fun h => by have := hb2.lt; have := R0.out; omega)
              have hDW := H2c.out.2.2.2.far (far_kept hkW (fun k h => by have := R0.out; omega))
              have hDd : DsIn w.heap.size (Dd :: Ds) S2 Sm2 W := by
                have hz := HW.out.2.1
                refine ⟨List.nodup_cons.2 ⟨fun h => ?_, hDW.1⟩, fun D h => ?_⟩
                · have := (Array.getElem?_eq_some_iff.1 (H2c.out.2.2.2.2 Dd h).2.1).1
                  have := R0.out
                  omega
                · rcases List.mem_cons.1 h with rfl | h
                  · exact ⟨by omega, hK, (hF1 D (by omega)).2⟩
                  · exact hDW.2 D h
              have HQ := Lib.hid (And.intro hMW (And.intro hbW (And.intro hDd (And.intro h2 s3))))
              clear h1 h2 h3 hxl hxm s3 hwr hF1 hMW hkW hb2 hbW hDW hDd hK hD hS
              (try dsimp only)
              gi_upto_region 45 with fail
              gi_cut [172] from 200 (fun v172 wx => v172 = .bool false ∧ W.grownBy wx none)
              case first =>
                rename_i J8 K8 hJ8 hK8
                refine wpIn_mono (Q := fun e a' w' => e = .normal ∧ K8 a' w') ?reg (by rintro e a' w' ⟨rfl, h⟩; exact h)
                case reg =>
                  obtain ⟨_, Am, cm, hm1, hm2, _⟩ := HQ.out.1.2.1
                  have sm := strs_own hm2
                  have hg0 := grown_drew (World.grownBy.refl W none)
                  obtain ⟨V2, hV2⟩ : ∃ V2, W.drew = V2 := ⟨_, rfl⟩
                  rw [hV2] at hg0
                  have hs : ∀ V, W.grownBy V none → V.cell? ⟨r0 + 1, 0, none⟩ = some (.slice A3 L2.length c3) ∧ V.cell? ⟨p + 1, 0, none⟩ = some (.slice Am L2.length cm) ∧ V.cell? ⟨ob, 2, none⟩ = some (.slice zT zx.length zd) ∧ Sem.run Tryd.prog (convert 30 9 (.slice zT zx.length zd)) V = .ok (.string ⟨zx.toArray⟩) V := fun V hg =>
                    ⟨(HQ.out.2.2.2.1.grown hg (by simp)).cell 0, (hm1.grown hg (by simp)).cell 0, (HQ.out.2.1.grown hg (by simp)).cell 2, str_any (HZ.out.1.low (HQ.out.1.grown hg).2.2.2.2.2 (fun _ h => h)) rfl⟩
                  have HS := Lib.hid hs
                  have hL16 : L2.length ≤ 16 := HQ.out.1.2.2.2.2.1.1
                  have HA := Lib.hid (And.intro hg0 (And.intro sm HQ.out.2.2.2.2))
                  clear hm1 hm2 sm hg0 hs
                  refine wpIn_region_held_wide (S := fun V => V.cell? ⟨r0 + 1, 0, none⟩ = some (.slice A3 L2.length c3) ∧ V.cell? ⟨p + 1, 0, none⟩ = some (.slice Am L2.length cm) ∧ V.cell? ⟨ob, 2, none⟩ = some (.slice zT zx.length zd) ∧ Sem.run Tryd.prog (convert 30 9 (.slice zT zx.length zd)) V = .ok (.string ⟨zx.toArray⟩) V) (by kernel_rfl) (by kernel_rfl) (by rintro ⟨_, _, h, _⟩; cases h) (by rw [hV2]; exact HS.out V2 HA.out.1) (fun hHeld => ?_)
                  rw [hV2] at hHeld ⊢
                  refine wpAnyH_take (i := 0) (oi := _) (v := ?ve0) rfl (by kernel_rfl) (by kernel_rfl) (by kernel_rfl) (fun _ _ _ h => by cases h.1) (Or.inl ⟨by rfl, ?hye0⟩) (by assumption) ?reste0
                  case hye0 => (intro V hSw; (try dsimp only at hSw); go_simp) <;> with_reducible rfl
                  simp only [Act.put, List.getElem_toArray, List.getElem_cons_zero, List.setIfInBounds_toArray, List.set_cons_zero, List.set_cons_succ]
                  refine wpAnyH_take (i := 1) (oi := _) (v := ?ve1) rfl (by kernel_rfl) (by kernel_rfl) (by kernel_rfl) (fun _ _ _ h => by cases h.1) (Or.inl ⟨by rfl, ?hye1⟩) (by assumption) ?reste1
                  case hye1 => (intro V hSw; (try dsimp only at hSw); go_simp) <;> with_reducible rfl
                  simp only [Act.put, List.getElem_toArray, List.getElem_cons_succ, List.getElem_cons_zero, List.setIfInBounds_toArray, List.set_cons_zero, List.set_cons_succ]
                  refine wpAnyH_take (i := 2) (oi := _) (v := ?ve2) rfl (by kernel_rfl) (by kernel_rfl) (by kernel_rfl) (fun _ _ _ h => by cases h.1) (Or.inl ⟨by rfl, ?hye2⟩) (by assumption) ?reste2
                  case hye2 => (intro V hSw; (try dsimp only at hSw); go_simp) <;> with_reducible rfl
                  simp only [Act.put, List.getElem_toArray, List.getElem_cons_succ, List.getElem_cons_zero, List.setIfInBounds_toArray, List.set_cons_zero, List.set_cons_succ]
                  refine wpAnyH_take (i := 3) (oi := _) (v := ?ve3) rfl (by kernel_rfl) (by kernel_rfl) (by kernel_rfl) (fun _ _ _ h => by cases h.1) (Or.inl ⟨by rfl, ?hye3⟩) (by assumption) ?reste3
                  case hye3 => (intro V hSw; (try dsimp only at hSw); go_simp) <;> with_reducible rfl
                  simp only [Act.put, List.getElem_toArray, List.getElem_cons_succ, List.getElem_cons_zero, List.setIfInBounds_toArray, List.set_cons_zero, List.set_cons_succ]
                  refine wpAnyH_take (i := 4) (oi := _) (v := ?ve4) rfl (by kernel_rfl) (by kernel_rfl) (by kernel_rfl) (fun _ _ _ h => by cases h.1) (Or.inl ⟨by rfl, ?hye4⟩) (by assumption) ?reste4
                  case hye4 => (intro V hSw; (try dsimp only at hSw); go_simp) <;> with_reducible rfl
                  simp only [Act.put, List.getElem_toArray, List.getElem_cons_succ, List.getElem_cons_zero, List.setIfInBounds_toArray, List.set_cons_zero, List.set_cons_succ]
                  refine wpAnyH_take (i := 5) (oi := _) (v := ?ve5) rfl (by kernel_rfl) (by kernel_rfl) (by kernel_rfl) (fun _ _ _ h => by cases h.1) (Or.inl ⟨by rfl, ?hye5⟩) (by assumption) ?reste5
                  case hye5 => (intro V hSw; (try dsimp only at hSw); go_simp) <;> with_reducible rfl
                  simp only [Act.put, List.getElem_toArray, List.getElem_cons_succ, List.getElem_cons_zero, List.setIfInBounds_toArray, List.set_cons_zero, List.set_cons_succ]
                  refine wpAnyH_take (i := 6) (oi := _) (v := ?ve6) rfl (by kernel_rfl) (by kernel_rfl) (by kernel_rfl) (fun _ _ _ h => by cases h.1) (Or.inl ⟨by rfl, ?hye6⟩) (by assumption) ?reste6
                  case hye6 => (intro V hSw; (try dsimp only at hSw); go_simp) <;> with_reducible rfl
                  simp only [Act.put, List.getElem_toArray, List.getElem_cons_succ, List.getElem_cons_zero, List.setIfInBounds_toArray, List.set_cons_zero, List.set_cons_succ]
                  refine wpAnyH_take (i := 7) (oi := _) (v := ?ve7) rfl (by kernel_rfl) (by kernel_rfl) (by kernel_rfl) (fun _ _ _ h => by cases h.1) (Or.inl ⟨by rfl, ?hye7⟩) (by assumption) ?reste7
                  case hye7 => (intro V hSw; (try dsimp only at hSw); go_simp) <;> with_reducible rfl
                  simp only [Act.put, List.getElem_toArray, List.getElem_cons_succ, List.getElem_cons_zero, List.setIfInBounds_toArray, List.set_cons_zero, List.set_cons_succ]
                  refine wpAnyH_ready (rs := [8]) (by kernel_rfl) (by simp) ?_
                  refine AllReadyH.cons (o := _) rfl (fun K9 hK => ?_) AllReadyH.nil
                  go_simp
                  refine (sametexts_is V2 A3 Am c3 cm L2.length L2 rfl (by omega) (HA.out.2.2.grown HA.out.1) (HA.out.2.1.grown HA.out.1)).mono ?_
                  rintro e w3 ⟨rfl, k3⟩
                  have H3 := Lib.hid (grown_trans HA.out.1 k3)
                  clear k3
                  go_wp2_with fail
                  refine hK.out _ _ (HS.out w3 H3.out) (fun hHeld => ?_)
                  clear hK K9
                  try simp only [Act.put, List.getElem_toArray, List.getElem_cons_succ, List.getElem_cons_zero, List.setIfInBounds_toArray, List.set_cons_zero, List.set_cons_succ]
                  refine wpAnyH_take (i := 9) (oi := _) (v := ?ve9) rfl (by kernel_rfl) (by kernel_rfl) (by kernel_rfl) (fun _ _ _ h => by cases h.1) (Or.inl ⟨by rfl, ?hye9⟩) (by assumption) ?reste9
                  case hye9 => (intro V hSw; (try dsimp only at hSw); go_simp) <;> with_reducible rfl
                  simp only [Act.put, List.getElem_toArray, List.getElem_cons_succ, List.getElem_cons_zero, List.setIfInBounds_toArray, List.set_cons_zero, List.set_cons_succ]
                  refine wpAnyH_take (i := 10) (oi := _) (v := ?ve10) rfl (by kernel_rfl) (by kernel_rfl) (by kernel_rfl) (fun _ _ _ h => by cases h.1) (Or.inl ⟨by rfl, ?hye10⟩) (by assumption) ?reste10
                  case hye10 => (intro V hSw; (try dsimp only at hSw); go_simp) <;> with_reducible rfl
                  simp only [Act.put, List.getElem_toArray, List.getElem_cons_succ, List.getElem_cons_zero, List.setIfInBounds_toArray, List.set_cons_zero, List.set_cons_succ]
                  refine wpAnyH_take (i := 11) (oi := _) (v := ?ve11) rfl (by kernel_rfl) (by kernel_rfl) (by kernel_rfl) (fun _ _ _ h => by cases h.1) (Or.inl ⟨by rfl, ?hye11⟩) (by assumption) ?reste11
                  case hye11 => (intro V hSw; (try dsimp only at hSw); go_simp) <;> with_reducible rfl
                  simp only [Act.put, List.getElem_toArray, List.getElem_cons_succ, List.getElem_cons_zero, List.setIfInBounds_toArray, List.set_cons_zero, List.set_cons_succ]
                  refine wpAnyH_take (i := 12) (oi := _) (v := ?ve12) rfl (by kernel_rfl) (by kernel_rfl) (by kernel_rfl) (fun _ _ _ h => by cases h.1) (Or.inl ⟨by rfl, ?hye12⟩) (by assumption) ?reste12
                  case hye12 => (intro V hSw; (try dsimp only at hSw); go_simp) <;> with_reducible rfl
                  simp only [Act.put, List.getElem_toArray, List.getElem_cons_succ, List.getElem_cons_zero, List.setIfInBounds_toArray, List.set_cons_zero, List.set_cons_succ]
                  refine wpAnyH_take (i := 14) (oi := _) (v := ?ve14) rfl (by kernel_rfl) (by kernel_rfl) (by kernel_rfl) (fun _ _ _ h => by cases h.1) (Or.inl ⟨by rfl, ?hye14⟩) (by assumption) ?reste14
                  case hye14 => (intro V hSw; (try dsimp only at hSw); go_simp) <;> with_reducible rfl
                  simp only [Act.put, List.getElem_toArray, List.getElem_cons_succ, List.getElem_cons_zero, List.setIfInBounds_toArray, List.set_cons_zero, List.set_cons_succ]
                  refine wpAnyH_take (i := 15) (oi := _) (v := ?ve15) rfl (by kernel_rfl) (by kernel_rfl) (by kernel_rfl) (fun _ _ _ h => by cases h.1) (Or.inl ⟨by rfl, ?hye15⟩) (by assumption) ?reste15
                  case hye15 => (intro V hSw; (try dsimp only at hSw); go_simp) <;> with_reducible rfl
                  simp only [Act.put, List.getElem_toArray, List.getElem_cons_succ, List.getElem_cons_zero, List.setIfInBounds_toArray, List.set_cons_zero, List.set_cons_succ]
                  refine wpAnyH_take (i := 16) (oi := _) (v := ?ve16) rfl (by kernel_rfl) (by kernel_rfl) (by kernel_rfl) (fun _ _ _ h => by cases h.1) (Or.inl ⟨by rfl, ?hye16⟩) (by assumption) ?reste16
                  case hye16 => (intro V hSw; (try dsimp only at hSw); go_simp) <;> with_reducible rfl
                  simp only [Act.put, List.getElem_toArray, List.getElem_cons_succ, List.getElem_cons_zero, List.setIfInBounds_toArray, List.set_cons_zero, List.set_cons_succ]
                  refine wpAnyH_take (i := 17) (oi := _) (v := ?ve17) rfl (by kernel_rfl) (by kernel_rfl) (by kernel_rfl) (fun _ _ _ h => by cases h.1) (Or.inl ⟨by rfl, ?hye17⟩) (by assumption) ?reste17
                  case hye17 => (intro V hSw; (try dsimp only at hSw); go_simp) <;> with_reducible rfl
                  simp only [Act.put, List.getElem_toArray, List.getElem_cons_succ, List.getElem_cons_zero, List.setIfInBounds_toArray, List.set_cons_zero, List.set_cons_succ]
                  refine wpAnyH_take (i := 18) (oi := _) (v := ?ve18) rfl (by kernel_rfl) (by kernel_rfl) (by kernel_rfl) (fun _ _ _ h => by cases h.1) (Or.inl ⟨by rfl, ?hye18⟩) (by assumption) ?reste18
                  case hye18 => (intro V hSw; (try dsimp only at hSw); go_simp) <;> with_reducible rfl
                  simp only [Act.put, List.getElem_toArray, List.getElem_cons_succ, List.getElem_cons_zero, List.setIfInBounds_toArray, List.set_cons_zero, List.set_cons_succ]
                  refine wpAnyH_ready (rs := [13]) (by kernel_rfl) (by simp) ?_
                  refine AllReadyH.cons (o := _) rfl (fun K9 hK => ?_) AllReadyH.nil
                  go_simp
                  refine (pool_len w3 S2 p L2 (HQ.out.1.grown H3.out).1).mono ?_
                  rintro e w4 ⟨rfl, rfl⟩
                  go_wp2_with fail
                  refine hK.out _ _ (HS.out _ H3.out) (fun hHeld => ?_)
                  clear hK K9
                  try simp only [Act.put, List.getElem_toArray, List.getElem_cons_succ, List.getElem_cons_zero, List.setIfInBounds_toArray, List.set_cons_zero, List.set_cons_succ]
                  refine wpAnyH_take (i := 19) (oi := _) (v := ?ve19) rfl (by kernel_rfl) (by kernel_rfl) (by kernel_rfl) (fun _ _ _ h => by cases h.1) (Or.inl ⟨by rfl, ?hye19⟩) (by assumption) ?reste19
                  case hye19 => (intro V hSw; (try dsimp only at hSw); go_simp) <;> with_reducible rfl
                  simp only [Act.put, List.getElem_toArray, List.getElem_cons_succ, List.getElem_cons_zero, List.setIfInBounds_toArray, List.set_cons_zero, List.set_cons_succ]
                  refine wpAnyH_take (i := 20) (oi := _) (v := ?ve20) rfl (by kernel_rfl) (by kernel_rfl) (by kernel_rfl) (fun _ _ _ h => by cases h.1) (Or.inl ⟨by rfl, ?hye20⟩) (by assumption) ?reste20
                  case hye20 => (intro V hSw; (try dsimp only at hSw); go_simp) <;> with_reducible rfl
                  simp only [Act.put, List.getElem_toArray, List.getElem_cons_succ, List.getElem_cons_zero, List.setIfInBounds_toArray, List.set_cons_zero, List.set_cons_succ]
                  refine wpAnyH_take (i := 21) (oi := _) (v := ?ve21) rfl (by kernel_rfl) (by kernel_rfl) (by kernel_rfl) (fun _ _ _ h => by cases h.1) (Or.inl ⟨by rfl, ?hye21⟩) (by assumption) ?reste21
                  case hye21 => (intro V hSw; (try dsimp only at hSw); go_simp) <;> with_reducible rfl
                  simp only [Act.put, List.getElem_toArray, List.getElem_cons_succ, List.getElem_cons_zero, List.setIfInBounds_toArray, List.set_cons_zero, List.set_cons_succ]
                  refine wpAnyH_take (i := 22) (oi := _) (v := ?ve22) rfl (by kernel_rfl) (by kernel_rfl) (by kernel_rfl) (fun _ _ _ h => by cases h.1) (Or.inl ⟨by rfl, ?hye22⟩) (by assumption) ?reste22
                  case hye22 => (intro V hSw; (try dsimp only at hSw); go_simp) <;> with_reducible rfl
                  simp only [Act.put, List.getElem_toArray, List.getElem_cons_succ, List.getElem_cons_zero, List.setIfInBounds_toArray, List.set_cons_zero, List.set_cons_succ]
                  refine wpAnyH_take (i := 23) (oi := _) (v := ?ve23) rfl (by kernel_rfl) (by kernel_rfl) (by kernel_rfl) (fun _ _ _ h => by cases h.1) (Or.inl ⟨by rfl, ?hye23⟩) (by assumption) ?reste23
                  case hye23 => (intro V hSw; (try dsimp only at hSw); go_simp) <;> with_reducible rfl
                  simp only [Act.put, List.getElem_toArray, List.getElem_cons_succ, List.getElem_cons_zero, List.setIfInBounds_toArray, List.set_cons_zero, List.set_cons_succ]
                  refine wpAnyH_take (i := 24) (oi := _) (v := ?ve24) rfl (by kernel_rfl) (by kernel_rfl) (by kernel_rfl) (fun _ _ _ h => by cases h.1) (Or.inl ⟨by rfl, ?hye24⟩) (by assumption) ?reste24
                  case hye24 => (intro V hSw; (try dsimp only at hSw); go_simp) <;> with_reducible rfl
                  simp only [Act.put, List.getElem_toArray, List.getElem_cons_succ, List.getElem_cons_zero, List.setIfInBounds_toArray, List.set_cons_zero, List.set_cons_succ]
                  refine wpAnyH_take (i := 26) (oi := _) (v := ?ve26) rfl (by kernel_rfl) (by kernel_rfl) (by kernel_rfl) (fun _ _ _ h => by cases h.1) (Or.inl ⟨by rfl, ?hye26⟩) (by assumption) ?reste26
                  case hye26 => (intro V hSw; (try dsimp only at hSw); go_simp) <;> with_reducible rfl
                  simp only [Act.put, List.getElem_toArray, List.getElem_cons_succ, List.getElem_cons_zero, List.setIfInBounds_toArray, List.set_cons_zero, List.set_cons_succ]
                  refine wpAnyH_take (i := 27) (oi := _) (v := ?ve27) rfl (by kernel_rfl) (by kernel_rfl) (by kernel_rfl) (fun _ _ _ h => by cases h.1) (Or.inl ⟨by rfl, ?hye27⟩) (by assumption) ?reste27
                  case hye27 => (intro V hSw; (try dsimp only at hSw); go_simp) <;> with_reducible rfl
                  simp only [Act.put, List.getElem_toArray, List.getElem_cons_succ, List.getElem_cons_zero, List.setIfInBounds_toArray, List.set_cons_zero, List.set_cons_succ]
                  refine wpAnyH_take (i := 28) (oi := _) (v := ?ve28) rfl (by kernel_rfl) (by kernel_rfl) (by kernel_rfl) (fun _ _ _ h => by cases h.1) (Or.inl ⟨by rfl, ?hye28⟩) (by assumption) ?reste28
                  case hye28 => (intro V hSw; (try dsimp only at hSw); go_simp) <;> with_reducible rfl
                  simp only [Act.put, List.getElem_toArray, List.getElem_cons_succ, List.getElem_cons_zero, List.setIfInBounds_toArray, List.set_cons_zero, List.set_cons_succ]
                  refine wpAnyH_take (i := 29) (oi := _) (v := ?ve29) rfl (by kernel_rfl) (by kernel_rfl) (by kernel_rfl) (fun _ _ _ h => by cases h.1) (Or.inl ⟨by rfl, ?hye29⟩) (by assumption) ?reste29
                  case hye29 => (intro V hSw; (try dsimp only at hSw); go_simp) <;> with_reducible rfl
                  simp only [Act.put, List.getElem_toArray, List.getElem_cons_succ, List.getElem_cons_zero, List.setIfInBounds_toArray, List.set_cons_zero, List.set_cons_succ]
                  refine wpAnyH_take (i := 30) (oi := _) (v := ?ve30) rfl (by kernel_rfl) (by kernel_rfl) (by kernel_rfl) (fun _ _ _ h => by cases h.1) (Or.inl ⟨by rfl, ?hye30⟩) (by assumption) ?reste30
                  case hye30 => (intro V hSw; (try dsimp only at hSw); go_simp) <;> with_reducible rfl
                  simp only [Act.put, List.getElem_toArray, List.getElem_cons_succ, List.getElem_cons_zero, List.setIfInBounds_toArray, List.set_cons_zero, List.set_cons_succ]
                  refine wpAnyH_take (i := 31) (oi := _) (v := ?ve31) rfl (by kernel_rfl) (by kernel_rfl) (by kernel_rfl) (fun _ _ _ h => by cases h.1) (Or.inl ⟨by rfl, ?hye31⟩) (by assumption) ?reste31
                  case hye31 => (intro V hSw; (try dsimp only at hSw); go_simp) <;> with_reducible rfl
                  simp only [Act.put, List.getElem_toArray, List.getElem_cons_succ, List.getElem_cons_zero, List.setIfInBounds_toArray, List.set_cons_zero, List.set_cons_succ]
                  refine wpAnyH_take (i := 32) (oi := _) (v := ?ve32) rfl (by kernel_rfl) (by kernel_rfl) (by kernel_rfl) (fun _ _ _ h => by cases h.1) (Or.inl ⟨by rfl, ?hye32⟩) (by assumption) ?reste32
                  case hye32 => (intro V hSw; (try dsimp only at hSw); go_simp) <;> with_reducible rfl
                  simp only [Act.put, List.getElem_toArray, List.getElem_cons_succ, List.getElem_cons_zero, List.setIfInBounds_toArray, List.set_cons_zero, List.set_cons_succ]
                  refine wpAnyH_ready (rs := [25]) (by kernel_rfl) (by simp) ?_
                  refine AllReadyH.cons (o := _) rfl (fun K9 hK => ?_) AllReadyH.nil
                  go_simp
                  refine (pool_has w4 S2 p L2 (HQ.out.1.grown H3.out).1 (by omega) zT zd zx (HZ.out.1.low (HQ.out.1.grown H3.out).2.2.2.2.2 (fun _ h => h))).mono ?_
                  rintro e w5 ⟨rfl, k5⟩
                  have H5 := Lib.hid (grown_trans H3.out k5)
                  clear k5
                  go_wp2_with fail
                  refine hK.out _ _ (HS.out w5 H5.out) (fun hHeld => ?_)
                  clear hK K9
                  try simp only [Act.put, List.getElem_toArray, List.getElem_cons_succ, List.getElem_cons_zero, List.setIfInBounds_toArray, List.set_cons_zero, List.set_cons_succ]
                  refine wpAnyH_ready (rs := [33]) (by kernel_rfl) (by simp) ?_
                  refine AllReadyH.cons (o := _) rfl (fun K9 hK => ?_) AllReadyH.nil
                  go_simp
                  refine (rhas_is w5 Am L2.length cm L2 rfl (by omega) (HA.out.2.1.grown H5.out) zx).mono ?_
                  rintro e w6 ⟨rfl, rfl⟩
                  go_wp2_with fail
                  refine hK.out _ _ (HS.out _ H5.out) (fun hHeld => ?_)
                  clear hK K9
                  try simp only [Act.put, List.getElem_toArray, List.getElem_cons_succ, List.getElem_cons_zero, List.setIfInBounds_toArray, List.set_cons_zero, List.set_cons_succ]
                  refine wpAnyH_take (i := 34) (oi := _) (v := ?ve34) rfl (by kernel_rfl) (by kernel_rfl) (by kernel_rfl) (fun _ _ _ h => by cases h.1) (Or.inl ⟨by rfl, ?hye34⟩) (by assumption) ?reste34
                  case hye34 => (intro V hSw; (try dsimp only at hSw); go_simp) <;> with_reducible rfl
                  simp only [Act.put, List.getElem_toArray, List.getElem_cons_succ, List.getElem_cons_zero, List.setIfInBounds_toArray, List.set_cons_zero, List.set_cons_succ]
                  refine wpAnyH_take (i := 35) (oi := _) (v := ?ve35) rfl (by kernel_rfl) (by kernel_rfl) (by kernel_rfl) (fun _ _ _ h => by cases h.1) (Or.inl ⟨by rfl, ?hye35⟩) (by assumption) ?reste35
                  case hye35 => (intro V hSw; (try dsimp only at hSw); go_simp) <;> with_reducible rfl
                  simp only [Act.put, List.getElem_toArray, List.getElem_cons_succ, List.getElem_cons_zero, List.setIfInBounds_toArray, List.set_cons_zero, List.set_cons_succ]
                  refine wpAnyH_done (by kernel_rfl) ?_ _
                  refine ⟨rfl, hK8 _ _ (Met.intro (hJ8 _ _ ?_))⟩
                  (repeat apply Exists.intro)
                  exact ⟨⟨rfl, H5.out⟩, rfl⟩
              obtain ⟨rfl, hgx⟩ := hcut
              have HX9 := Lib.hid (And.intro (HQ.out.1.grown hgx) (HQ.out.2.2.1.far (far_kept (F := fun _ => False) (Kept.of_grown (F := fun _ => False) hgx fun _ e => by cases e) (fun _ h => h.elim))))
              clear hgx
              gi_wp2
              refine ⟨?_, ?measure⟩
              · refine ⟨Dd :: Ds, ?_⟩
                (repeat apply Exists.intro)
                refine ⟨?rel, rfl⟩
                case rel => exact ⟨k + 1, S2, Sm2, L2, by have := HN.out.2.1; omega, by rw [HN.out.1]; rfl, HX9.out.1, HX9.out.2⟩
              case measure =>
                obtain ⟨hI, hlt, _⟩ := HN.out
                simp [intOf]
                omega
    · have d1 : decide (I < (n : Int)) = false := by simp; omega
      have HDs := Lib.hid hDs
      clear hDs
      have HG := Lib.hid (show w.grownBy wr none from hM.2.2.2.2.2.grownNone (fun k hk h => by omega))
      clear hI hlt hk hM
      gi_wp2
      exact leaves_dsOf (fun W' hg => ⟨_, results_tmp rfl _ _ _, rfl, hg⟩) Ds _ HG.out HDs.out
end Go.Proofs.YtnhjokcjdjfijaaDoor
