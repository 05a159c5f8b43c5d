/-
  Several texts in one: ChG, ChU, TrA.
-/
import Derived.Test.YtlokjbjpmhfkhaaDoorM11r
import Derived.Test.YtlokjbjpmhfkhaaDoorM11v
import Derived.Test.YtlokjbjpmhfkhaaDoorM11w
import Derived.Test.YtlokjbjpmhfkhaaDoorM11i
import Derived.Test.YtlokjbjpmhfkhaaDoorM11t
/-
  chains.Recover of 68 chains, by a leaf.
-/
namespace Go.Proofs.YtlokjbjpmhfkhaaDoor
open Go.RowKit

theorem isleaf_yes (w : World) (lf : Int) (h : 0 ≤ lf ∧ lf < 32) : Calls Tryd.prog 60 #[.int .i64 lf] w fun e w' => e = .returned (.bool true) ∧ w' = w := by
  have d1 : decide (0 ≤ lf) = true := by simp; omega
  have d2 : decide (lf < 32) = true := by simp; omega
  obtain ⟨h1, h2⟩ := h
  go_enter Tryd.func60, Tryd.ntmps60
  go_wp2
  go_ret
  simp
theorem isleaf_no (w : World) (lf : Int) (h : lf < 0 ∨ 32 ≤ lf) : Calls Tryd.prog 60 #[.int .i64 lf] w fun e w' => e = .returned (.bool false) ∧ w' = w := by
  by_cases h0 : lf < 0
  · have d1 : decide (0 ≤ lf) = false := by simp; omega
    have h1 : ¬ 0 ≤ lf := by omega
    go_enter Tryd.func60, Tryd.ntmps60
    go_wp2
    go_ret
    simp
  · have d1 : decide (0 ≤ lf) = true := by simp; omega
    have d2 : decide (lf < 32) = false := by simp; omega
    have h1 : 0 ≤ lf := by omega
    have h2 : ¬ lf < 32 := by omega
    go_enter Tryd.func60, Tryd.ntmps60
    go_wp2
    go_ret
    simp

set_option maxRecDepth 100000 in
set_option maxHeartbeats 4000000 in
theorem recover_ok (w : World) (hR : Rounds w) (lf : Int) (hlf : 0 ≤ lf ∧ lf < 32) (b off c : Nat) (ps : List (List Int)) (hl : ps.length = 68) (hps : ∀ p ∈ ps, isDig p) (hD : DigsAt w b off ps) (d : List Int) (hd : isDig d) (rs : Array Value) (hrs : rs = arrV .u8 (recC lf ps d)) :
    Calls Tryd.prog 49 #[.int .i64 lf, .slice (some ⟨b, off, none⟩) 68 c, .agg (arrV .u8 d)] w fun e w' => e = .returned (.tuple #[.agg rs, .nilIface]) ∧ w.grownBy w' none := by
  obtain ⟨Z16, hZ16⟩ : ∃ Z, Z = arrV .u8 (List.replicate 16 0) := ⟨_, rfl⟩
  have hz16 : ∀ w, Sem.run Tryd.prog (zeroValue 32) w = .ok (.agg Z16) w := fun w => by rw [hZ16]; exact z16run w
  have hZs : Z16.size = 16 := by rw [hZ16]; rfl
  obtain ⟨ds, hds⟩ : ∃ ds, ds = arrV .u8 d := ⟨_, rfl⟩
  rw [← hds]
  obtain ⟨i0, hi0, hz0, hz1, hz2⟩ := info_parts u8i
  have HI0 := Lib.hid (And.intro hi0 (And.intro hz0 (And.intro hz1 hz2)))
  have HD := Lib.hid (show ds = arrV .u8 d ∧ ds.size = 16 ∧ Z16.size = 16 from ⟨hds, by rw [hds, arr_size, hd.1], hZs⟩)
  have hrd : isDig (recC lf ps d) := by rw [recC, pubC]; exact ofS_dig _ _
  have HN := Lib.hid (And.intro hd (And.intro hl (And.intro hps (And.intro hD (And.intro hrs hrd)))))
  have HR := Lib.hid hR
  have HLF := Lib.hid hlf
  clear hZ16 hZs hds hd hl hps hD hrs hrd hR hi0 hz0 hz1 hz2 hlf
  go_enter Tryd.func49, Tryd.ntmps49
  obtain ⟨w0, hw0⟩ : ∃ w0, w0 = (w.alloc (.cells ds 32)).alloc (.cells Z16 32) := ⟨_, rfl⟩
  have HB0 := Lib.hid (show Blk w0 w.heap.size 32 ds by rw [hw0]; exact (Blk.new w _ ds).alloc _)
  have HZ0 := Lib.hid (show Blk w0 (w.heap.size + 1) 32 Z16 by rw [hw0]; have := Blk.new (w.alloc (.cells ds 32)) 32 Z16; rwa [World.size_alloc] at this)
  have HG0 := Lib.hid (show w.grownBy w0 none by rw [hw0]; exact grown_trans (World.grownBy_alloc _ _ none) (World.grownBy_alloc _ _ none))
  have HW0 := Lib.hid hw0
  clear hw0
  go_wp2_with fail
  rw [← HW0.out]
  refine (isleaf_yes w0 lf HLF.out).mono ?_
  rintro e w' ⟨rfl, rfl⟩
  go_wp2_with (refine wpList_load_row rfl 32 _ rfl w.heap.size rfl 32 ds (0, 0) _ HB0.out Tryd.underlying32 rfl (by rw [HD.out.2.1]; exact info16) ?_)
  rw [HD.out.1]
  refine (digits_is _ d HN.out.1.1 HN.out.1.2).mono ?_
  rintro e w1 ⟨g, cap, rfl, hcell, hgs, hk1⟩
  rw [← HD.out.1]
  have HC := Lib.hid hcell
  have HZ1 := Lib.hid (HZ0.out.grown hk1 (by simp))
  have HG1 := Lib.hid (grown_trans HG0.out hk1)
  clear hcell hgs hk1
  go_wp2_with fail
  go_loopw [25, 8] (fun i v wr => ∃ k : Nat, k ≤ 68 ∧ i = .int .i64 (k : Int) ∧ wr.ownsRow w1.heap.size 5 1 v (16 * k) ((rowC (endC ps d lf) k).map (Value.int .u8)) ∧ w1.grownBy wr none) (fun i _ _ => 68 - (intOf i).toNat)
  case atStart => exact ⟨0, by omega, rfl, World.ownsRow_nil _ _ _ _, World.grownBy.refl w1 none⟩
  case round =>
    obtain ⟨k, hk, hi, hown, hK⟩ := hrel
    obtain ⟨I, hI⟩ : ∃ I : Int, I = (k : Int) := ⟨_, rfl⟩
    rw [← hI] at hi
    subst hi
    by_cases hlt : k < 68
    · have d1 : decide (I < 68) = true := by simp; omega
      have hI68 : 0 ≤ I ∧ I < 68 := by omega
      have hkI : I.toNat = k := by omega
      obtain ⟨x, hx⟩ : ∃ x, x = (digitsS d).getD k 0 := ⟨_, rfl⟩
      have hxr : 0 ≤ x ∧ x ≤ 3 := by
        have hl : k < (digitsS d).length := by rw [digitsS_length, HN.out.1.1]; exact hlt
        rw [hx, List.getD, List.getElem?_eq_getElem hl]
        exact digitsS_range d _ (List.getElem_mem hl)
      have kc : wr.cell? ⟨g, I.toNat, none⟩ = some (.int .i64 x) := by rw [hkI, hx]; exact hK.cell (HC.out k hlt) (by simp)
      obtain ⟨p, hp⟩ : ∃ p, p = ps.getD k zeroC := ⟨_, rfl⟩
      have hpd : isDig p := by rw [hp]; exact getD_dig HN.out.2.2.1 k
      obtain ⟨cs, hcs⟩ : ∃ cs, cs = arrV .u8 p := ⟨_, rfl⟩
      obtain ⟨cl, hcl⟩ : ∃ cl, cl = cs.toList := ⟨_, rfl⟩
      have hcl16 : cl.length = 16 := by rw [hcl, Array.length_toList, hcs, arr_size]; exact hpd.1
      have hr1 : wr.rangeAt b (off + I.toNat * 16) cl := by
        rw [hkI, hcl, hcs, hp]
        exact range_grown (HN.out.2.2.2.1 k (by rw [HN.out.2.1]; exact hlt)) (grown_trans HG1.out hK)
      obtain ⟨es, hes⟩ : ∃ es, es = arrV .u8 (endC ps d lf k) := ⟨_, rfl⟩
      have hed := endC_dig HN.out.2.2.1 d lf k
      have hes16 : es.size = 16 := by rw [hes, arr_size]; exact hed.1
      have HR1 := Lib.hid (And.intro hr1 (show (Tryd.prog.info? 32).map (·.size) = some cl.length by rw [hcl16]; exact info16))
      have HST := Lib.hid (run_v wr (HR.out.grown (grown_trans HG1.out hK) (by simp)) p hpd lf I x 3 hxr.1 (by omega) _ rfl cl.toArray es (by rw [hcl, Array.toArray_toList, hcs]) (by rw [hes, endC, ← hx, ← hp, hI]))
      have HES := Lib.hid (show es.size = 16 ∧ (es.all fun v => v.oneCell') = true ∧ es.toList = (endC ps d lf k).map (Value.int .u8) from ⟨hes16, by rw [hes]; exact arr_one _ _, by rw [hes]⟩)
      have HK := Lib.hid (And.intro hI (And.intro hlt hK))
      have HO := Lib.hid hown
      have hsl := dig_slice
      clear hI hlt hkI hx hp hpd hcs hcl hcl16 hr1 hes hed hes16 hK hk hown
      go_wp2_with (refine wpList_load_mid rfl 32 _ rfl b (off + I.toNat * 16) rfl cl _ HR1.out.1 Tryd.underlying32 rfl HR1.out.2 ?_)
      refine HST.out.mono ?_
      rintro e w2 ⟨rfl, hk2⟩
      have HB2 := Lib.hid (fun o => Blk.row (Blk.new w2 32 o) es)
      have HO2 := Lib.hid (fun o => own_keep HO.out (grown_row (grown_trans hk2 (World.grownBy_alloc w2 o none)) (g := w2.heap.size) (.inl hk2.size) es))
      have HG2 := Lib.hid (fun o => grown_row (grown_trans (grown_trans HK.out.2.2 hk2) (World.grownBy_alloc w2 o none)) (g := w2.heap.size) (.inl (grown_trans HK.out.2.2 hk2).size) es)
      have HZ := Lib.hid (show w1.heap.size ≤ w2.heap.size from (grown_trans HK.out.2.2 hk2).size)
      clear hk2
      go_wp2_with (first
        | (refine wpList_store_row rfl 32 _ _ rfl w2.heap.size es rfl rfl 32 _ (heap_alloc_new w2 _) (by rw [HES.out.1]; exact info16) (by simp only [HES.out.1, HD.out.2.2]) HES.out.2.1 ?_)
        | (at_builtin; refine wpList_append_own _ rfl _ _ 25 rfl w1.heap.size 5 i0 (.int .u8 0) 1 1 Tryd.underlying25 HI0.out.1 HI0.out.2.1 HI0.out.2.2.1 HI0.out.2.2.2 rfl (by decide) _ _ _ rfl (HO2.out _) ⟨w2.heap.size, 0, none⟩ 16 16 es.toList rfl (show es.toList.length = 16 * 1 by rw [Array.length_toList]; exact HES.out.1) (fun j u hu => by rw [addr_zero_add, (HB2.out _).cell j, ← Array.getElem?_toList]; exact hu) (by rw [HES.out.2.2]; simp [Value.oneCell']) (by have := HK.out.2.1; simp only [maxLen]; omega) (by have := HK.out.2.1; omega) (by rw [setRow_size, World.size_alloc]; have := HZ.out; omega) ?_; intro v' w4 hown4 hgrow _; have HO4 := Lib.hid hown4; have HG4 := Lib.hid (grown_own (HG2.out _) hgrow (HO2.out _) (Nat.le_refl _)); clear hown4 hgrow))
      go_roundw
      case rel =>
        obtain ⟨hI, hlt, _⟩ := HK.out
        refine ⟨k + 1, by omega, by rw [hI]; rfl, ?_, HG4.out⟩
        rw [rowC, List.map_append, ← HES.out.2.2, show 16 * (k + 1) = 16 * k + 16 by omega]
        exact HO4.out
      case measure => obtain ⟨hI, hlt, _⟩ := HK.out; simp only [intOf]; omega
    · obtain rfl : k = 68 := by omega
      have d1 : decide (I < 68) = false := by simp; omega
      obtain ⟨A, cap2, rfl, hby, hcap, hlen⟩ := own_str hown
      have HS := Lib.hid (And.intro hby (And.intro hcap hlen))
      have HK := Lib.hid hK
      clear hby hcap hlen hK hI hlt hk hown
      go_wp2_with fail
      refine (public_is wr (HR.out.grown (grown_trans HG1.out HK.out) (by simp)) lf A _ cap2 _ HS.out.2.2 HS.out.2.1 HS.out.1 (by omega)).mono ?_
      rintro e w4 ⟨rfl, hk4⟩
      rw [← recC, ← HN.out.2.2.2.2.1]
      have HS6 := Lib.hid (show rs.size = 16 ∧ (rs.all fun x => x.oneCell') = true from ⟨by rw [HN.out.2.2.2.2.1, arr_size]; exact HN.out.2.2.2.2.2.1, by rw [HN.out.2.2.2.2.1]; exact arr_one _ _⟩)
      have HZ4 := Lib.hid ((HZ1.out.grown HK.out (by simp)).grown hk4 (by simp))
      have HG4 := Lib.hid (grown_trans HG1.out (grown_trans HK.out hk4))
      clear hk4
      go_wp2_with (refine wpList_store_row rfl 32 _ _ rfl (w.heap.size + 1) rs rfl rfl 32 _ HZ4.out (by rw [HS6.out.1]; exact info16) (by rw [HD.out.2.2, HS6.out.1]) HS6.out.2 ?_)
      refine bodyPost_ret (results_cell_t rfl _ _ _ ⟨w.heap.size + 1, 0, none⟩ (.agg rs) rfl (run_loadVar_row _ (w.heap.size + 1) 32 32 rs (0, 0) _ (HZ4.out.row rs) Tryd.underlying32 rfl (by rw [HS6.out.1]; exact info16))) rfl ?_
      exact ⟨rfl, grown_row HG4.out (.inl (Nat.le_succ _)) rs⟩
end Go.Proofs.YtlokjbjpmhfkhaaDoor
/-
  chains.Public by a leaf.
-/
namespace Go.Proofs.YtlokjbjpmhfkhaaDoor
open Go.RowKit Go.Shelf

attribute [local go_sem] Oper.semAt_some

theorem run_of (w : World) (hR : Rounds w) (seed : List Int) (lf i : Int) (k : Nat) (hi : i = (k : Int)) (cs es : Array Value) (h1 : cs = arrV .u8 (secC seed lf k)) (h2 : es = arrV .u8 (endS seed lf k)) :
    Calls Tryd.prog 62 #[.agg cs, .int .i64 lf, .int .i64 i, .int .i64 0, .int .i64 3] w fun e w' => e = .returned (.agg es) ∧ w.grownBy w' none := by
  subst hi
  exact run_v w hR (secC seed lf k) (secC_dig _ _ _) lf k 0 3 (by omega) (by omega) 3 rfl cs es h1 (by rw [h2, endS])
/-- The row of the ends, in the box of a variable. -/
def EndsIn (W : World) (B base : Nat) (n : Nat) (L : List Int) : Prop := ∃ v, Boxed W B 25 v ∧ W.ownsRow base 5 1 v n (L.map (Value.int .u8)) ∧ True
theorem EndsIn.grown {W W' : World} {B base n : Nat} {L : List Int} (h : EndsIn W B base n L) (hg : W.grownBy W' none) : EndsIn W' B base n L := by
  obtain ⟨v, h1, h2, _⟩ := h
  exact ⟨v, h1.kept hg (by simp), own_keep h2 hg, trivial⟩
theorem ends_own {B0 : Nat} (B base : Nat) (f : Nat → List Int) : OwnFrom B0 (fun (pre : List Nat) W => EndsIn W B base (16 * pre.length) (rowL f pre)) :=
  (holdsRow_own base B 25 5 1 (fun pre : List Nat => 16 * pre.length) (fun pre => (rowL f pre).map (Value.int .u8)) (fun _ _ => True)).from _

end Go.Proofs.YtlokjbjpmhfkhaaDoor
/-
  trees.Join and quorateref04.Join.
-/

namespace Go.Proofs.YtlokjbjpmhfkhaaDoor
open Go.RowKit

/-- The digest above two. -/
def joinC (a b : List Int) : List Int := ofS 4 [a, b]
theorem joinC_dig (a b : List Int) : isDig (joinC a b) := by rw [joinC]; exact ofS_dig _ _

set_option maxRecDepth 100000 in
set_option maxHeartbeats 2000000 in
theorem join_is (w : World) (hR : Rounds w) (a b : List Int) (ha : isDig a) (hb : isDig b) (da db rs : Array Value) (hda : da = arrV .u8 a) (hdb : db = arrV .u8 b) (hrs : rs = arrV .u8 (joinC a b)) :
    Calls Tryd.prog 65 #[.agg da, .agg db] w fun e w' => e = .returned (.agg rs) ∧ w.grownBy w' none := by
  obtain ⟨Z16, hZ16⟩ : ∃ Z, Z = arrV .u8 (List.replicate 16 0) := ⟨_, rfl⟩
  have hz16 : ∀ w, Sem.run Tryd.prog (zeroValue 32) w = .ok (.agg Z16) w := fun w => by rw [hZ16]; exact z16run w
  have hZs : Z16.size = 16 := by rw [hZ16]; rfl
  have hps : ∀ p ∈ [a, b], p.length ≤ 65536 := by
    intro p hp
    have : p.length = 16 := by
      simp only [List.mem_cons, List.not_mem_nil, or_false] at hp
      rcases hp with rfl | rfl
      · exact ha.1
      · exact hb.1
    omega
  have hs16 : rs.size = 16 := by rw [hrs, arr_size]; exact (joinC_dig _ _).1
  have HS6 := Lib.hid (And.intro hs16 (And.intro (show (rs.all fun x => x.oneCell') = true by rw [hrs]; exact arr_one _ _) hrs))
  obtain ⟨l6, hl6⟩ : ∃ l, l = rs.toList := ⟨_, rfl⟩
  have hl16 : l6.length = 16 := by rw [hl6, Array.length_toList, hs16]
  have hi6 : (Tryd.prog.info? 32).map (·.size) = some l6.length := by rw [hl16]; exact info16
  have ho6 : ∀ v ∈ l6, v.oneCell' = true := by rw [hl6, hrs]; simp [Value.oneCell']
  have HLE := Lib.hid hl6
  have HL6 := Lib.hid (show arrV .u8 (ofS 4 [a, b]) = l6.toArray by rw [hl6, Array.toArray_toList, hrs, joinC])
  have HD := Lib.hid (And.intro hda (And.intro hdb (And.intro hZs (And.intro ha hb))))
  have HR := Lib.hid hR
  have hsl := dig_slice
  clear hZ16 hZs hda hdb hrs hR ha hb
  go_enter Tryd.func65, Tryd.ntmps65
  go_wp2_with fail
  obtain ⟨w0, hw0⟩ : ∃ w0, w0 = ((w.alloc (.cells da 32)).alloc (.cells db 32)).alloc (.cells Z16 32) := ⟨_, rfl⟩
  rw [← hw0]
  have s0 : w0.heap.size = w.heap.size + 3 := by rw [hw0]; simp
  have HB0 := Lib.hid (show Blk w0 w.heap.size 32 da ∧ Blk w0 (w.heap.size + 1) 32 db ∧ Blk w0 (w.heap.size + 1 + 1) 32 Z16 ∧ w.grownBy w0 none from by
    rw [hw0]
    have b1 := (Blk.new (w.alloc (.cells da 32)) 32 db).alloc (.cells Z16 32)
    have b2 := Blk.new ((w.alloc (.cells da 32)).alloc (.cells db 32)) 32 Z16
    simp only [World.size_alloc] at b1 b2
    exact ⟨((Blk.new w 32 da).alloc _).alloc _, b1, b2, grown_trans (grown_trans (World.grownBy_alloc w _ none) (World.grownBy_alloc _ _ none)) (World.grownBy_alloc _ _ none)⟩)
  clear hw0
  have W3 : w0.grownBy (w0.drew.alloc (.cells #[.slice (some ⟨w.heap.size, 0, none⟩) 16 16, .slice (some ⟨w.heap.size + 1, 0, none⟩) 16 16] 25)) none := grown_trans (grown_drew (World.grownBy.refl w0 none)) (World.grownBy_alloc _ _ none)
  have HP := Lib.hid (show PartsI (w0.drew.alloc (.cells #[.slice (some ⟨w.heap.size, 0, none⟩) 16 16, .slice (some ⟨w.heap.size + 1, 0, none⟩) 16 16] 25)) (some ⟨w0.heap.size, 0, none⟩) [a, b] from by
    have := parts_new w0.drew 25 #[.slice (some ⟨w.heap.size, 0, none⟩) 16 16, .slice (some ⟨w.heap.size + 1, 0, none⟩) 16 16] [a, b] (fun j hj => by
      have : j = 0 ∨ j = 1 := by simp at hj; omega
      rcases this with rfl | rfl
      · exact ⟨_, 16, 16, rfl, HD.out.2.2.2.1.1, Nat.le_refl _, bytes_blk (t := 32) (show Blk _ w.heap.size 32 (arrV .u8 a) by rw [← HD.out.1]; exact HB0.out.1.grown W3 (by simp))⟩
      · exact ⟨_, 16, 16, rfl, HD.out.2.2.2.2.1, Nat.le_refl _, bytes_blk (t := 32) (show Blk _ (w.heap.size + 1) 32 (arrV .u8 b) by rw [← HD.out.2.1]; exact HB0.out.2.1.grown W3 (by simp))⟩)
    simpa using this)
  have HW3 := Lib.hid (And.intro W3 (grown_trans HB0.out.2.2.2 W3))
  have hT : w0.drew.there (w.heap.size + 1 + 1) 0 16 := there_blk HB0.out.2.2.1.drew (by rw [HD.out.2.2.1]; exact Nat.le_refl _)
  clear s0 hs16 hl6 W3
  go_region_held3 (fun W => W.there (w.heap.size + 1 + 1) 0 16) (first | assumption | (refine there_alloc ?_ _; assumption) | (refine World.there_setCells ?_ _ _ _; assumption))
    ((first
      | (go_at_call 42; refine (of_is _ (HR.out.grown HW3.out.2 (by simp)) 4 _ 2 2 [a, b] rfl HP.out (by omega) hps).mono ?_; rintro e w9 ⟨rfl, hk9⟩; rw [HL6.out]; have hT9 := there_grown (by assumption) hk9)))
  have HK9 := Lib.hid (grown_trans HW3.out.2 hk9)
  have HB9 := Lib.hid ((HB0.out.2.2.1.grown HW3.out.1 (by simp)).grown hk9 (by simp))
  have HE := Lib.hid (show w9.setCells (w.heap.size + 1 + 1) 0 l6 = w9.setRow (w.heap.size + 1 + 1) rs by
    rw [HLE.out]
    exact setCells_row (P := Tryd.prog) HB9.out (by rw [HS6.out.1]; exact info16) (by rw [HD.out.2.2.1, HS6.out.1]) HS6.out.2.1)
  rw [HE.out]
  go_wp2_with fail
  refine bodyPost_ret (results_cell rfl _ _ _ ⟨w.heap.size + 1 + 1, 0, none⟩ (.agg rs) rfl (run_loadVar_row _ (w.heap.size + 1 + 1) 32 32 rs (0, 0) _ (HB9.out.row rs) Tryd.underlying32 rfl (by rw [HS6.out.1]; exact info16))) rfl ?_
  exact ⟨rfl, grown_row HK9.out (.inl (by omega)) rs⟩

theorem range_blk' {w : World} {g g' : Nat} {t : TypeId} {cs cs' : Array Value} {l : List Value} (h : Blk w g t cs) (hne : g ≠ g') (hl : l = cs.toList) : (w.setRow g' cs').rangeAt g 0 l := by
  rw [hl]; exact range_blk (h.farRow hne cs')

end Go.Proofs.YtlokjbjpmhfkhaaDoor
