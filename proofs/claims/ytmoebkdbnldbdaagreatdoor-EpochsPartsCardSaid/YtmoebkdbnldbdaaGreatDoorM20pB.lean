/-
  Several texts in one: ChU, TrA, TrC, TrP.
-/
import Derived.Test.YtmoebkdbnldbdaaGreatDoorM20pw
import Derived.Test.YtmoebkdbnldbdaaGreatDoorM20px
import Derived.Test.YtmoebkdbnldbdaaGreatDoorM20pA
/-
  chains.Public by a leaf.
-/
namespace Go.Proofs.YtmoebkdbnldbdaaGreatDoor
open Go.RowKit Go.Shelf

attribute [local go_sem] Oper.semAt_some

theorem run_of (w : World) (hR : Rounds w) (seed : List Int) (lf i : Int) (k : Nat) (hi : i = (k : Int)) (cs es : Array Value) (h1 : cs = arrV .u8 (secC seed lf k)) (h2 : es = arrV .u8 (endS seed lf k)) :
    Calls Tryz.prog 110 #[.agg cs, .int .i64 lf, .int .i64 i, .int .i64 0, .int .i64 3] w fun e w' => e = .returned (.agg es) ∧ w.grownBy w' none := by
  subst hi
  exact run_v w hR (secC seed lf k) (secC_dig _ _ _) lf k 0 3 (by omega) (by omega) 3 rfl cs es h1 (by rw [h2, endS])
/-- The row of the ends, in the box of a variable. -/
def EndsIn (W : World) (B base : Nat) (n : Nat) (L : List Int) : Prop := ∃ v, Boxed W B 61 v ∧ W.ownsRow base 5 1 v n (L.map (Value.int .u8)) ∧ True
theorem EndsIn.grown {W W' : World} {B base n : Nat} {L : List Int} (h : EndsIn W B base n L) (hg : W.grownBy W' none) : EndsIn W' B base n L := by
  obtain ⟨v, h1, h2, _⟩ := h
  exact ⟨v, h1.kept hg (by simp), own_keep h2 hg, trivial⟩
theorem ends_own {B0 : Nat} (B base : Nat) (f : Nat → List Int) : OwnFrom B0 (fun (pre : List Nat) W => EndsIn W B base (16 * pre.length) (rowL f pre)) :=
  (holdsRow_own base B 61 5 1 (fun pre : List Nat => 16 * pre.length) (fun pre => (rowL f pre).map (Value.int .u8)) (fun _ _ => True)).from _

end Go.Proofs.YtmoebkdbnldbdaaGreatDoor
/-
  trees.Join and quorateref04.Join.
-/

namespace Go.Proofs.YtmoebkdbnldbdaaGreatDoor
open Go.RowKit

/-- The digest above two. -/
def joinC (a b : List Int) : List Int := ofS 4 [a, b]
theorem joinC_dig (a b : List Int) : isDig (joinC a b) := by rw [joinC]; exact ofS_dig _ _

set_option maxRecDepth 100000 in
set_option maxHeartbeats 2000000 in
theorem join_is (w : World) (hR : Rounds w) (a b : List Int) (ha : isDig a) (hb : isDig b) (da db rs : Array Value) (hda : da = arrV .u8 a) (hdb : db = arrV .u8 b) (hrs : rs = arrV .u8 (joinC a b)) :
    Calls Tryz.prog 113 #[.agg da, .agg db] w fun e w' => e = .returned (.agg rs) ∧ w.grownBy w' none := by
  obtain ⟨Z16, hZ16⟩ : ∃ Z, Z = arrV .u8 (List.replicate 16 0) := ⟨_, rfl⟩
  have hz16 : ∀ w, Sem.run Tryz.prog (zeroValue 24) w = .ok (.agg Z16) w := fun w => by rw [hZ16]; exact z16run w
  have hZs : Z16.size = 16 := by rw [hZ16]; rfl
  have hps : ∀ p ∈ [a, b], p.length ≤ 65536 := by
    intro p hp
    have : p.length = 16 := by
      simp only [List.mem_cons, List.not_mem_nil, or_false] at hp
      rcases hp with rfl | rfl
      · exact ha.1
      · exact hb.1
    omega
  have hs16 : rs.size = 16 := by rw [hrs, arr_size]; exact (joinC_dig _ _).1
  have HS6 := Lib.hid (And.intro hs16 (And.intro (show (rs.all fun x => x.oneCell') = true by rw [hrs]; exact arr_one _ _) hrs))
  obtain ⟨l6, hl6⟩ : ∃ l, l = rs.toList := ⟨_, rfl⟩
  have hl16 : l6.length = 16 := by rw [hl6, Array.length_toList, hs16]
  have hi6 : (Tryz.prog.info? 24).map (·.size) = some l6.length := by rw [hl16]; exact info16
  have ho6 : ∀ v ∈ l6, v.oneCell' = true := by rw [hl6, hrs]; simp [Value.oneCell']
  have HLE := Lib.hid hl6
  have HL6 := Lib.hid (show arrV .u8 (ofS 4 [a, b]) = l6.toArray by rw [hl6, Array.toArray_toList, hrs, joinC])
  have HD := Lib.hid (And.intro hda (And.intro hdb (And.intro hZs (And.intro ha hb))))
  have HR := Lib.hid hR
  have hsl := dig_slice
  clear hZ16 hZs hda hdb hrs hR ha hb
  go_enter Tryz.func113, Tryz.ntmps113
  go_wp2_with fail
  obtain ⟨w0, hw0⟩ : ∃ w0, w0 = ((w.alloc (.cells da 24)).alloc (.cells db 24)).alloc (.cells Z16 24) := ⟨_, rfl⟩
  rw [← hw0]
  have s0 : w0.heap.size = w.heap.size + 3 := by rw [hw0]; simp
  have HB0 := Lib.hid (show Blk w0 w.heap.size 24 da ∧ Blk w0 (w.heap.size + 1) 24 db ∧ Blk w0 (w.heap.size + 1 + 1) 24 Z16 ∧ w.grownBy w0 none from by
    rw [hw0]
    have b1 := (Blk.new (w.alloc (.cells da 24)) 24 db).alloc (.cells Z16 24)
    have b2 := Blk.new ((w.alloc (.cells da 24)).alloc (.cells db 24)) 24 Z16
    simp only [World.size_alloc] at b1 b2
    exact ⟨((Blk.new w 24 da).alloc _).alloc _, b1, b2, grown_trans (grown_trans (World.grownBy_alloc w _ none) (World.grownBy_alloc _ _ none)) (World.grownBy_alloc _ _ none)⟩)
  clear hw0
  have W3 : w0.grownBy (w0.drew.alloc (.cells #[.slice (some ⟨w.heap.size, 0, none⟩) 16 16, .slice (some ⟨w.heap.size + 1, 0, none⟩) 16 16] 61)) none := grown_trans (grown_drew (World.grownBy.refl w0 none)) (World.grownBy_alloc _ _ none)
  have HP := Lib.hid (show PartsI (w0.drew.alloc (.cells #[.slice (some ⟨w.heap.size, 0, none⟩) 16 16, .slice (some ⟨w.heap.size + 1, 0, none⟩) 16 16] 61)) (some ⟨w0.heap.size, 0, none⟩) [a, b] from by
    have := parts_new w0.drew 61 #[.slice (some ⟨w.heap.size, 0, none⟩) 16 16, .slice (some ⟨w.heap.size + 1, 0, none⟩) 16 16] [a, b] (fun j hj => by
      have : j = 0 ∨ j = 1 := by simp at hj; omega
      rcases this with rfl | rfl
      · exact ⟨_, 16, 16, rfl, HD.out.2.2.2.1.1, Nat.le_refl _, bytes_blk (t := 24) (show Blk _ w.heap.size 24 (arrV .u8 a) by rw [← HD.out.1]; exact HB0.out.1.grown W3 (by simp))⟩
      · exact ⟨_, 16, 16, rfl, HD.out.2.2.2.2.1, Nat.le_refl _, bytes_blk (t := 24) (show Blk _ (w.heap.size + 1) 24 (arrV .u8 b) by rw [← HD.out.2.1]; exact HB0.out.2.1.grown W3 (by simp))⟩)
    simpa using this)
  have HW3 := Lib.hid (And.intro W3 (grown_trans HB0.out.2.2.2 W3))
  have hT : w0.drew.there (w.heap.size + 1 + 1) 0 16 := there_blk HB0.out.2.2.1.drew (by rw [HD.out.2.2.1]; exact Nat.le_refl _)
  clear s0 hs16 hl6 W3
  go_region_held3 (fun W => W.there (w.heap.size + 1 + 1) 0 16) (first | assumption | (refine there_alloc ?_ _; assumption) | (refine World.there_setCells ?_ _ _ _; assumption))
    ((first
      | (go_at_call 33; refine (of_is _ (HR.out.grown HW3.out.2 (by simp)) 4 _ 2 2 [a, b] rfl HP.out (by omega) hps).mono ?_; rintro e w9 ⟨rfl, hk9⟩; rw [HL6.out]; have hT9 := there_grown (by assumption) hk9)))
  have HK9 := Lib.hid (grown_trans HW3.out.2 hk9)
  have HB9 := Lib.hid ((HB0.out.2.2.1.grown HW3.out.1 (by simp)).grown hk9 (by simp))
  have HE := Lib.hid (show w9.setCells (w.heap.size + 1 + 1) 0 l6 = w9.setRow (w.heap.size + 1 + 1) rs by
    rw [HLE.out]
    exact setCells_row (P := Tryz.prog) HB9.out (by rw [HS6.out.1]; exact info16) (by rw [HD.out.2.2.1, HS6.out.1]) HS6.out.2.1)
  rw [HE.out]
  go_wp2_with fail
  refine bodyPost_ret (results_cell rfl _ _ _ ⟨w.heap.size + 1 + 1, 0, none⟩ (.agg rs) rfl (run_loadVar_row _ (w.heap.size + 1 + 1) 24 24 rs (0, 0) _ (HB9.out.row rs) Tryz.underlying24 rfl (by rw [HS6.out.1]; exact info16))) rfl ?_
  exact ⟨rfl, grown_row HK9.out (.inl (by omega)) rs⟩

theorem range_blk' {w : World} {g g' : Nat} {t : TypeId} {cs cs' : Array Value} {l : List Value} (h : Blk w g t cs) (hne : g ≠ g') (hl : l = cs.toList) : (w.setRow g' cs').rangeAt g 0 l := by
  rw [hl]; exact range_blk (h.farRow hne cs')

end Go.Proofs.YtmoebkdbnldbdaaGreatDoor
/-
  trees.Climb and quorateref04.Climb.
-/

namespace Go.Proofs.YtmoebkdbnldbdaaGreatDoor
open Go.RowKit

theorem i64_and1 (n : Int) : bits .and .i64 n 1 = n % 2 := by
  have h3 : (BitVec.ofInt 64 1).toNat = 2 ^ 1 - 1 := by decide
  have key : (BitVec.ofInt 64 n &&& BitVec.ofInt 64 1).toNat = (n % ((2 ^ 64 : Nat) : Int)).toNat % 2 ^ 1 := by
    rw [BitVec.toNat_and, BitVec.toNat_ofInt, h3, Nat.and_two_pow_sub_one_eq_mod]
  show IntKind.i64.wrap ((BitVec.ofInt 64 n &&& BitVec.ofInt 64 1).toNat : Nat) = n % 2
  rw [key, IntKind.wrap_i64]
  omega
/-- Where a way up has come to behind n digests. -/
def climbC (x : List Int) (i : Int) (ps : List (List Int)) : Nat → List Int
  | 0 => x
  | n + 1 => if i / 2 ^ n % 2 = 0 then joinC (climbC x i ps n) (ps.getD n zeroC) else joinC (ps.getD n zeroC) (climbC x i ps n)
theorem climbC_dig {x : List Int} (hx : isDig x) (i : Int) (ps : List (List Int)) : ∀ n, isDig (climbC x i ps n)
  | 0 => hx
  | n + 1 => by rw [climbC]; split <;> exact joinC_dig _ _
theorem leaf_yes (w : World) (lf : Int) (h : 0 ≤ lf ∧ lf < 32) : Calls Tryz.prog 112 #[.int .i64 lf] w fun e w' => e = .returned (.bool true) ∧ w' = w := by
  have d1 : decide (0 ≤ lf) = true := by simp; omega
  have d2 : decide (lf < 32) = true := by simp; omega
  obtain ⟨h1, h2⟩ := h
  go_enter Tryz.func112, Tryz.ntmps112
  go_wp2
  go_ret
  simp
theorem leaf_no (w : World) (lf : Int) (h : lf < 0 ∨ 32 ≤ lf) : Calls Tryz.prog 112 #[.int .i64 lf] w fun e w' => e = .returned (.bool false) ∧ w' = w := by
  by_cases h0 : lf < 0
  · have d1 : decide (0 ≤ lf) = false := by simp; omega
    have h1 : ¬ 0 ≤ lf := by omega
    go_enter Tryz.func112, Tryz.ntmps112
    go_wp2
    go_ret
    simp
  · have d1 : decide (0 ≤ lf) = true := by simp; omega
    have d2 : decide (lf < 32) = false := by simp; omega
    have h1 : 0 ≤ lf := by omega
    have h2 : ¬ lf < 32 := by omega
    go_enter Tryz.func112, Tryz.ntmps112
    go_wp2
    go_ret
    simp

set_option maxRecDepth 100000 in
set_option maxHeartbeats 8000000 in
theorem climb_ok (w : World) (hR : Rounds w) (x : List Int) (hx : isDig x) (lf : Int) (hlf : 0 ≤ lf ∧ lf < 32) (b off c : Nat) (ps : List (List Int)) (hl : ps.length = 5) (hps : ∀ p ∈ ps, isDig p) (hD : DigsAt w b off ps) (ds rs : Array Value) (hds : ds = arrV .u8 x) (hrs : rs = arrV .u8 (climbC x lf ps 5)) :
    Calls Tryz.prog 100 #[.agg ds, .int .i64 lf, .slice (some ⟨b, off, none⟩) 5 c] w fun e w' => e = .returned (.tuple #[.agg rs, .nilIface]) ∧ w.grownBy w' none := by
  obtain ⟨Z16, hZ16⟩ : ∃ Z, Z = arrV .u8 (List.replicate 16 0) := ⟨_, rfl⟩
  have hz16 : ∀ w, Sem.run Tryz.prog (zeroValue 24) w = .ok (.agg Z16) w := fun w => by rw [hZ16]; exact z16run w
  have HD := Lib.hid (show ds = arrV .u8 (climbC x lf ps 0) ∧ ds.size = 16 ∧ Z16.size = 16 ∧ (ds.all fun v => v.oneCell') = true from ⟨by rw [hds, climbC], by rw [hds, arr_size, hx.1], by rw [hZ16]; rfl, by rw [hds]; exact arr_one _ _⟩)
  have HN := Lib.hid (And.intro hx (And.intro hl (And.intro hps (And.intro hD (And.intro hrs hR)))))
  have HLF := Lib.hid hlf
  clear hZ16 hds hx hl hps hD hrs hR hlf
  go_enter Tryz.func100, Tryz.ntmps100
  go_wp2_with fail
  refine (leaf_yes _ lf HLF.out).mono ?_
  rintro e w' ⟨rfl, rfl⟩
  have b0 := (Blk.new w 24 ds).alloc (.cells Z16 24)
  have b1 := Blk.new (w.alloc (.cells ds 24)) 24 Z16
  have b2 := Blk.new ((w.alloc (.cells ds 24)).alloc (.cells Z16 24)) 24 Z16
  simp only [World.size_alloc] at b1 b2
  have HZ2 := Lib.hid (And.intro (b0.alloc (.cells Z16 24)) b2)
  have HF := Lib.hid (show Blk ((((w.alloc (.cells ds 24)).alloc (.cells Z16 24)).alloc (.cells Z16 24)).setRow (w.heap.size + 1 + 1) ds) (w.heap.size + 1) 24 Z16 ∧ Blk ((((w.alloc (.cells ds 24)).alloc (.cells Z16 24)).alloc (.cells Z16 24)).setRow (w.heap.size + 1 + 1) ds) (w.heap.size + 1 + 1) 24 ds ∧ w.grownBy ((((w.alloc (.cells ds 24)).alloc (.cells Z16 24)).alloc (.cells Z16 24)).setRow (w.heap.size + 1 + 1) ds) none from
    ⟨(b1.alloc (.cells Z16 24)).farRow (by omega) ds, b2.row ds, grown_row (grown_trans (grown_trans (World.grownBy_alloc w _ none) (World.grownBy_alloc _ _ none)) (World.grownBy_alloc _ _ none)) (.inl (by omega)) ds⟩)
  have HB0 := Lib.hid b0
  clear b0 b1 b2
  go_wp2_with (first
    | (refine wpList_load_row rfl 24 _ rfl w.heap.size rfl 24 ds (0, 0) _ HB0.out Tryz.underlying24 rfl (by rw [HD.out.2.1]; exact info16) ?_)
    | (refine wpList_store_row rfl 24 _ _ rfl (w.heap.size + 1 + 1) ds rfl rfl 24 _ HZ2.out.2 (by rw [HD.out.2.1]; exact info16) (by rw [HD.out.2.2.1, HD.out.2.1]) HD.out.2.2.2 ?_))
  generalize (((w.alloc (.cells ds 24)).alloc (.cells Z16 24)).alloc (.cells Z16 24)).setRow (w.heap.size + 1 + 1) ds = w3 at *
  go_loopw [24] (fun i wr => ∃ k : Nat, k ≤ 5 ∧ i = .int .i64 (k : Int) ∧ Blk wr (w.heap.size + 1 + 1) 24 (arrV .u8 (climbC x lf ps k)) ∧ Blk wr (w.heap.size + 1) 24 Z16 ∧ w.grownBy wr none) (fun i _ => 5 - (intOf i).toNat)
  case atStart => exact ⟨0, by omega, rfl, by rw [← HD.out.1]; exact HF.out.2.1, HF.out.1, HF.out.2.2⟩
  case round =>
    obtain ⟨k, hk, hi, hB, hZ, hG⟩ := hrel
    obtain ⟨cs, hcs⟩ : ∃ cs, cs = arrV .u8 (climbC x lf ps k) := ⟨_, rfl⟩
    rw [← hcs] at hB
    have hdk := climbC_dig HN.out.1 lf ps k
    have hsz : cs.size = 16 := by rw [hcs, arr_size]; exact hdk.1
    by_cases hlt : k < 5
    · have hpd := getD_dig HN.out.2.2.1 k
      obtain ⟨p, hp⟩ : ∃ p, p = ps.getD k zeroC := ⟨_, rfl⟩
      rw [← hp] at hpd
      obtain ⟨es, hes⟩ : ∃ es, es = arrV .u8 p := ⟨_, rfl⟩
      obtain ⟨el, hel⟩ : ∃ el, el = es.toList := ⟨_, rfl⟩
      have he16 : es.size = 16 := by rw [hes, arr_size]; exact hpd.1
      have hr1 : wr.rangeAt b (off + k * 16) el := by
        rw [hel, hes, hp]
        exact range_grown (HN.out.2.2.2.1 k (by rw [HN.out.2.1]; exact hlt)) hG
      obtain ⟨ns, hns⟩ : ∃ ns, ns = arrV .u8 (climbC x lf ps (k + 1)) := ⟨_, rfl⟩
      have hn16 : ns.size = 16 := by rw [hns, arr_size]; exact (climbC_dig HN.out.1 lf ps (k + 1)).1
      have HNS := Lib.hid (And.intro hn16 (And.intro (show (ns.all fun v => v.oneCell') = true by rw [hns]; exact arr_one _ _) hns))
      have HES := Lib.hid (And.intro he16 (And.intro (show (es.all fun v => v.oneCell') = true by rw [hes]; exact arr_one _ _) (And.intro hr1 (And.intro (show (Tryz.prog.info? 24).map (·.size) = some el.length by rw [hel, Array.length_toList, he16]; exact info16) (show el.toArray = es by rw [hel, Array.toArray_toList])))))
      have HB := Lib.hid (And.intro hB (And.intro hZ (And.intro hG hsz)))
      have hand := i64_and1 (lf / 2 ^ k)
      by_cases hpar : lf / 2 ^ k % 2 = 0
      · have J := Lib.hid (fun (V : World) (hV : w.grownBy V none) => join_is V (HN.out.2.2.2.2.2.grown hV (by simp)) (climbC x lf ps k) p hdk hpd cs es ns hcs hes (by rw [hns, climbC, if_pos hpar, ← hp]))
        rw [hpar] at hand
        have hcases : k = 0 ∨ k = 1 ∨ k = 2 ∨ k = 3 ∨ k = 4 := by omega
        clear hB hZ hG hk hlt hp hes hel he16 hr1 hns hn16 hpar hcs hsz
        rcases hcases with rfl | rfl | rfl | rfl | rfl
        · subst hi
          have hand' : bits .and .i64 (lf) 1 = 0 := by simpa using hand
          clear hand
          go_wp2_with (first
            | (refine wpList_load_mid rfl 24 _ rfl b _ rfl el _ HES.out.2.2.1 Tryz.underlying24 rfl HES.out.2.2.2.1 ?_; rw [HES.out.2.2.2.2])
            | (refine wpList_store_row rfl 24 _ _ rfl wr.heap.size es rfl rfl 24 _ (heap_alloc_new wr _) (by rw [HES.out.1]; exact info16) (by rw [HD.out.2.2.1, HES.out.1]) HES.out.2.1 ?_
               obtain ⟨w4, hw4⟩ : ∃ w4, w4 = (wr.alloc (.cells Z16 24)).setRow wr.heap.size es := ⟨_, rfl⟩
               obtain ⟨p10, hp10⟩ : ∃ p, p = wr.heap.size := ⟨_, rfl⟩
               rw [← hw4, ← hp10]
               have HB4 := Lib.hid (show Blk w4 p10 24 es ∧ Blk w4 (w.heap.size + 1 + 1) 24 cs ∧ Blk w4 (w.heap.size + 1) 24 Z16 ∧ w.grownBy w4 none from by
                 rw [hw4, hp10]
                 have hg4 := grown_row (World.grownBy_alloc wr (.cells Z16 24) none) (.inl (Nat.le_refl _)) es
                 exact ⟨(Blk.new wr 24 Z16).row es, HB.out.1.grown hg4 (by simp), HB.out.2.1.grown hg4 (by simp), grown_trans HB.out.2.2.1 hg4⟩)
               clear hw4 hp10)
            | (refine wpList_load_row rfl 24 _ rfl (w.heap.size + 1 + 1) rfl 24 cs (0, 0) _ HB4.out.2.1 Tryz.underlying24 rfl (by rw [HB.out.2.2.2]; exact info16) ?_)
            | (refine wpList_load_row rfl 24 _ rfl p10 rfl 24 es (0, 0) _ HB4.out.1 Tryz.underlying24 rfl (by rw [HES.out.1]; exact info16) ?_))
          refine (J.out w4 HB4.out.2.2.2).mono ?_
          rintro e w5 ⟨rfl, hk5⟩
          have HB5 := Lib.hid (And.intro (HB4.out.2.1.grown hk5 (by simp)) (And.intro (HB4.out.2.2.1.grown hk5 (by simp)) (grown_trans HB4.out.2.2.2 hk5)))
          clear hk5
          go_wp2_with (refine wpList_store_row rfl 24 _ _ rfl (w.heap.size + 1 + 1) ns rfl rfl 24 _ HB5.out.1 (by rw [HNS.out.1]; exact info16) (by rw [HB.out.2.2.2, HNS.out.1]) HNS.out.2.1 ?_)
          go_roundw
          case rel => exact ⟨1, by omega, rfl, by rw [← HNS.out.2.2]; exact HB5.out.1.row ns, HB5.out.2.1.farRow (by omega) ns, grown_row HB5.out.2.2 (.inl (by omega)) ns⟩
          case measure => simp [intOf]
        · subst hi
          have hand' : bits .and .i64 (lf / 2) 1 = 0 := by simpa using hand
          clear hand
          go_wp2_with (first
            | (refine wpList_load_mid rfl 24 _ rfl b _ rfl el _ HES.out.2.2.1 Tryz.underlying24 rfl HES.out.2.2.2.1 ?_; rw [HES.out.2.2.2.2])
            | (refine wpList_store_row rfl 24 _ _ rfl wr.heap.size es rfl rfl 24 _ (heap_alloc_new wr _) (by rw [HES.out.1]; exact info16) (by rw [HD.out.2.2.1, HES.out.1]) HES.out.2.1 ?_
               obtain ⟨w4, hw4⟩ : ∃ w4, w4 = (wr.alloc (.cells Z16 24)).setRow wr.heap.size es := ⟨_, rfl⟩
               obtain ⟨p10, hp10⟩ : ∃ p, p = wr.heap.size := ⟨_, rfl⟩
               rw [← hw4, ← hp10]
               have HB4 := Lib.hid (show Blk w4 p10 24 es ∧ Blk w4 (w.heap.size + 1 + 1) 24 cs ∧ Blk w4 (w.heap.size + 1) 24 Z16 ∧ w.grownBy w4 none from by
                 rw [hw4, hp10]
                 have hg4 := grown_row (World.grownBy_alloc wr (.cells Z16 24) none) (.inl (Nat.le_refl _)) es
                 exact ⟨(Blk.new wr 24 Z16).row es, HB.out.1.grown hg4 (by simp), HB.out.2.1.grown hg4 (by simp), grown_trans HB.out.2.2.1 hg4⟩)
               clear hw4 hp10)
            | (refine wpList_load_row rfl 24 _ rfl (w.heap.size + 1 + 1) rfl 24 cs (0, 0) _ HB4.out.2.1 Tryz.underlying24 rfl (by rw [HB.out.2.2.2]; exact info16) ?_)
            | (refine wpList_load_row rfl 24 _ rfl p10 rfl 24 es (0, 0) _ HB4.out.1 Tryz.underlying24 rfl (by rw [HES.out.1]; exact info16) ?_))
          refine (J.out w4 HB4.out.2.2.2).mono ?_
          rintro e w5 ⟨rfl, hk5⟩
          have HB5 := Lib.hid (And.intro (HB4.out.2.1.grown hk5 (by simp)) (And.intro (HB4.out.2.2.1.grown hk5 (by simp)) (grown_trans HB4.out.2.2.2 hk5)))
          clear hk5
          go_wp2_with (refine wpList_store_row rfl 24 _ _ rfl (w.heap.size + 1 + 1) ns rfl rfl 24 _ HB5.out.1 (by rw [HNS.out.1]; exact info16) (by rw [HB.out.2.2.2, HNS.out.1]) HNS.out.2.1 ?_)
          go_roundw
          case rel => exact ⟨2, by omega, rfl, by rw [← HNS.out.2.2]; exact HB5.out.1.row ns, HB5.out.2.1.farRow (by omega) ns, grown_row HB5.out.2.2 (.inl (by omega)) ns⟩
          case measure => simp [intOf]
        · subst hi
          have hand' : bits .and .i64 (lf / 4) 1 = 0 := by simpa using hand
          clear hand
          go_wp2_with (first
            | (refine wpList_load_mid rfl 24 _ rfl b _ rfl el _ HES.out.2.2.1 Tryz.underlying24 rfl HES.out.2.2.2.1 ?_; rw [HES.out.2.2.2.2])
            | (refine wpList_store_row rfl 24 _ _ rfl wr.heap.size es rfl rfl 24 _ (heap_alloc_new wr _) (by rw [HES.out.1]; exact info16) (by rw [HD.out.2.2.1, HES.out.1]) HES.out.2.1 ?_
               obtain ⟨w4, hw4⟩ : ∃ w4, w4 = (wr.alloc (.cells Z16 24)).setRow wr.heap.size es := ⟨_, rfl⟩
               obtain ⟨p10, hp10⟩ : ∃ p, p = wr.heap.size := ⟨_, rfl⟩
               rw [← hw4, ← hp10]
               have HB4 := Lib.hid (show Blk w4 p10 24 es ∧ Blk w4 (w.heap.size + 1 + 1) 24 cs ∧ Blk w4 (w.heap.size + 1) 24 Z16 ∧ w.grownBy w4 none from by
                 rw [hw4, hp10]
                 have hg4 := grown_row (World.grownBy_alloc wr (.cells Z16 24) none) (.inl (Nat.le_refl _)) es
                 exact ⟨(Blk.new wr 24 Z16).row es, HB.out.1.grown hg4 (by simp), HB.out.2.1.grown hg4 (by simp), grown_trans HB.out.2.2.1 hg4⟩)
               clear hw4 hp10)
            | (refine wpList_load_row rfl 24 _ rfl (w.heap.size + 1 + 1) rfl 24 cs (0, 0) _ HB4.out.2.1 Tryz.underlying24 rfl (by rw [HB.out.2.2.2]; exact info16) ?_)
            | (refine wpList_load_row rfl 24 _ rfl p10 rfl 24 es (0, 0) _ HB4.out.1 Tryz.underlying24 rfl (by rw [HES.out.1]; exact info16) ?_))
          refine (J.out w4 HB4.out.2.2.2).mono ?_
          rintro e w5 ⟨rfl, hk5⟩
          have HB5 := Lib.hid (And.intro (HB4.out.2.1.grown hk5 (by simp)) (And.intro (HB4.out.2.2.1.grown hk5 (by simp)) (grown_trans HB4.out.2.2.2 hk5)))
          clear hk5
          go_wp2_with (refine wpList_store_row rfl 24 _ _ rfl (w.heap.size + 1 + 1) ns rfl rfl 24 _ HB5.out.1 (by rw [HNS.out.1]; exact info16) (by rw [HB.out.2.2.2, HNS.out.1]) HNS.out.2.1 ?_)
          go_roundw
          case rel => exact ⟨3, by omega, rfl, by rw [← HNS.out.2.2]; exact HB5.out.1.row ns, HB5.out.2.1.farRow (by omega) ns, grown_row HB5.out.2.2 (.inl (by omega)) ns⟩
          case measure => simp [intOf]
        · subst hi
          have hand' : bits .and .i64 (lf / 8) 1 = 0 := by simpa using hand
          clear hand
          go_wp2_with (first
            | (refine wpList_load_mid rfl 24 _ rfl b _ rfl el _ HES.out.2.2.1 Tryz.underlying24 rfl HES.out.2.2.2.1 ?_; rw [HES.out.2.2.2.2])
            | (refine wpList_store_row rfl 24 _ _ rfl wr.heap.size es rfl rfl 24 _ (heap_alloc_new wr _) (by rw [HES.out.1]; exact info16) (by rw [HD.out.2.2.1, HES.out.1]) HES.out.2.1 ?_
               obtain ⟨w4, hw4⟩ : ∃ w4, w4 = (wr.alloc (.cells Z16 24)).setRow wr.heap.size es := ⟨_, rfl⟩
               obtain ⟨p10, hp10⟩ : ∃ p, p = wr.heap.size := ⟨_, rfl⟩
               rw [← hw4, ← hp10]
               have HB4 := Lib.hid (show Blk w4 p10 24 es ∧ Blk w4 (w.heap.size + 1 + 1) 24 cs ∧ Blk w4 (w.heap.size + 1) 24 Z16 ∧ w.grownBy w4 none from by
                 rw [hw4, hp10]
                 have hg4 := grown_row (World.grownBy_alloc wr (.cells Z16 24) none) (.inl (Nat.le_refl _)) es
                 exact ⟨(Blk.new wr 24 Z16).row es, HB.out.1.grown hg4 (by simp), HB.out.2.1.grown hg4 (by simp), grown_trans HB.out.2.2.1 hg4⟩)
               clear hw4 hp10)
            | (refine wpList_load_row rfl 24 _ rfl (w.heap.size + 1 + 1) rfl 24 cs (0, 0) _ HB4.out.2.1 Tryz.underlying24 rfl (by rw [HB.out.2.2.2]; exact info16) ?_)
            | (refine wpList_load_row rfl 24 _ rfl p10 rfl 24 es (0, 0) _ HB4.out.1 Tryz.underlying24 rfl (by rw [HES.out.1]; exact info16) ?_))
          refine (J.out w4 HB4.out.2.2.2).mono ?_
          rintro e w5 ⟨rfl, hk5⟩
          have HB5 := Lib.hid (And.intro (HB4.out.2.1.grown hk5 (by simp)) (And.intro (HB4.out.2.2.1.grown hk5 (by simp)) (grown_trans HB4.out.2.2.2 hk5)))
          clear hk5
          go_wp2_with (refine wpList_store_row rfl 24 _ _ rfl (w.heap.size + 1 + 1) ns rfl rfl 24 _ HB5.out.1 (by rw [HNS.out.1]; exact info16) (by rw [HB.out.2.2.2, HNS.out.1]) HNS.out.2.1 ?_)
          go_roundw
          case rel => exact ⟨4, by omega, rfl, by rw [← HNS.out.2.2]; exact HB5.out.1.row ns, HB5.out.2.1.farRow (by omega) ns, grown_row HB5.out.2.2 (.inl (by omega)) ns⟩
          case measure => simp [intOf]
        · subst hi
          have hand' : bits .and .i64 (lf / 16) 1 = 0 := by simpa using hand
          clear hand
          go_wp2_with (first
            | (refine wpList_load_mid rfl 24 _ rfl b _ rfl el _ HES.out.2.2.1 Tryz.underlying24 rfl HES.out.2.2.2.1 ?_; rw [HES.out.2.2.2.2])
            | (refine wpList_store_row rfl 24 _ _ rfl wr.heap.size es rfl rfl 24 _ (heap_alloc_new wr _) (by rw [HES.out.1]; exact info16) (by rw [HD.out.2.2.1, HES.out.1]) HES.out.2.1 ?_
               obtain ⟨w4, hw4⟩ : ∃ w4, w4 = (wr.alloc (.cells Z16 24)).setRow wr.heap.size es := ⟨_, rfl⟩
               obtain ⟨p10, hp10⟩ : ∃ p, p = wr.heap.size := ⟨_, rfl⟩
               rw [← hw4, ← hp10]
               have HB4 := Lib.hid (show Blk w4 p10 24 es ∧ Blk w4 (w.heap.size + 1 + 1) 24 cs ∧ Blk w4 (w.heap.size + 1) 24 Z16 ∧ w.grownBy w4 none from by
                 rw [hw4, hp10]
                 have hg4 := grown_row (World.grownBy_alloc wr (.cells Z16 24) none) (.inl (Nat.le_refl _)) es
                 exact ⟨(Blk.new wr 24 Z16).row es, HB.out.1.grown hg4 (by simp), HB.out.2.1.grown hg4 (by simp), grown_trans HB.out.2.2.1 hg4⟩)
               clear hw4 hp10)
            | (refine wpList_load_row rfl 24 _ rfl (w.heap.size + 1 + 1) rfl 24 cs (0, 0) _ HB4.out.2.1 Tryz.underlying24 rfl (by rw [HB.out.2.2.2]; exact info16) ?_)
            | (refine wpList_load_row rfl 24 _ rfl p10 rfl 24 es (0, 0) _ HB4.out.1 Tryz.underlying24 rfl (by rw [HES.out.1]; exact info16) ?_))
          refine (J.out w4 HB4.out.2.2.2).mono ?_
          rintro e w5 ⟨rfl, hk5⟩
          have HB5 := Lib.hid (And.intro (HB4.out.2.1.grown hk5 (by simp)) (And.intro (HB4.out.2.2.1.grown hk5 (by simp)) (grown_trans HB4.out.2.2.2 hk5)))
          clear hk5
          go_wp2_with (refine wpList_store_row rfl 24 _ _ rfl (w.heap.size + 1 + 1) ns rfl rfl 24 _ HB5.out.1 (by rw [HNS.out.1]; exact info16) (by rw [HB.out.2.2.2, HNS.out.1]) HNS.out.2.1 ?_)
          go_roundw
          case rel => exact ⟨5, by omega, rfl, by rw [← HNS.out.2.2]; exact HB5.out.1.row ns, HB5.out.2.1.farRow (by omega) ns, grown_row HB5.out.2.2 (.inl (by omega)) ns⟩
          case measure => simp [intOf]
      · have J := Lib.hid (fun (V : World) (hV : w.grownBy V none) => join_is V (HN.out.2.2.2.2.2.grown hV (by simp)) p (climbC x lf ps k) hpd hdk es cs ns hes hcs (by rw [hns, climbC, if_neg hpar, ← hp]))
        rw [show lf / 2 ^ k % 2 = 1 by omega] at hand
        have hcases : k = 0 ∨ k = 1 ∨ k = 2 ∨ k = 3 ∨ k = 4 := by omega
        clear hB hZ hG hk hlt hp hes hel he16 hr1 hns hn16 hpar hcs hsz
        rcases hcases with rfl | rfl | rfl | rfl | rfl
        · subst hi
          have hand' : bits .and .i64 (lf) 1 = 1 := by simpa using hand
          clear hand
          go_wp2_with (first
            | (refine wpList_load_mid rfl 24 _ rfl b _ rfl el _ HES.out.2.2.1 Tryz.underlying24 rfl HES.out.2.2.2.1 ?_; rw [HES.out.2.2.2.2])
            | (refine wpList_store_row rfl 24 _ _ rfl wr.heap.size es rfl rfl 24 _ (heap_alloc_new wr _) (by rw [HES.out.1]; exact info16) (by rw [HD.out.2.2.1, HES.out.1]) HES.out.2.1 ?_
               obtain ⟨w4, hw4⟩ : ∃ w4, w4 = (wr.alloc (.cells Z16 24)).setRow wr.heap.size es := ⟨_, rfl⟩
               obtain ⟨p10, hp10⟩ : ∃ p, p = wr.heap.size := ⟨_, rfl⟩
               rw [← hw4, ← hp10]
               have HB4 := Lib.hid (show Blk w4 p10 24 es ∧ Blk w4 (w.heap.size + 1 + 1) 24 cs ∧ Blk w4 (w.heap.size + 1) 24 Z16 ∧ w.grownBy w4 none from by
                 rw [hw4, hp10]
                 have hg4 := grown_row (World.grownBy_alloc wr (.cells Z16 24) none) (.inl (Nat.le_refl _)) es
                 exact ⟨(Blk.new wr 24 Z16).row es, HB.out.1.grown hg4 (by simp), HB.out.2.1.grown hg4 (by simp), grown_trans HB.out.2.2.1 hg4⟩)
               clear hw4 hp10)
            | (refine wpList_load_row rfl 24 _ rfl (w.heap.size + 1 + 1) rfl 24 cs (0, 0) _ HB4.out.2.1 Tryz.underlying24 rfl (by rw [HB.out.2.2.2]; exact info16) ?_)
            | (refine wpList_load_row rfl 24 _ rfl p10 rfl 24 es (0, 0) _ HB4.out.1 Tryz.underlying24 rfl (by rw [HES.out.1]; exact info16) ?_))
          refine (J.out w4 HB4.out.2.2.2).mono ?_
          rintro e w5 ⟨rfl, hk5⟩
          have HB5 := Lib.hid (And.intro (HB4.out.2.1.grown hk5 (by simp)) (And.intro (HB4.out.2.2.1.grown hk5 (by simp)) (grown_trans HB4.out.2.2.2 hk5)))
          clear hk5
          go_wp2_with (refine wpList_store_row rfl 24 _ _ rfl (w.heap.size + 1 + 1) ns rfl rfl 24 _ HB5.out.1 (by rw [HNS.out.1]; exact info16) (by rw [HB.out.2.2.2, HNS.out.1]) HNS.out.2.1 ?_)
          go_roundw
          case rel => exact ⟨1, by omega, rfl, by rw [← HNS.out.2.2]; exact HB5.out.1.row ns, HB5.out.2.1.farRow (by omega) ns, grown_row HB5.out.2.2 (.inl (by omega)) ns⟩
          case measure => simp [intOf]
        · subst hi
          have hand' : bits .and .i64 (lf / 2) 1 = 1 := by simpa using hand
          clear hand
          go_wp2_with (first
            | (refine wpList_load_mid rfl 24 _ rfl b _ rfl el _ HES.out.2.2.1 Tryz.underlying24 rfl HES.out.2.2.2.1 ?_; rw [HES.out.2.2.2.2])
            | (refine wpList_store_row rfl 24 _ _ rfl wr.heap.size es rfl rfl 24 _ (heap_alloc_new wr _) (by rw [HES.out.1]; exact info16) (by rw [HD.out.2.2.1, HES.out.1]) HES.out.2.1 ?_
               obtain ⟨w4, hw4⟩ : ∃ w4, w4 = (wr.alloc (.cells Z16 24)).setRow wr.heap.size es := ⟨_, rfl⟩
               obtain ⟨p10, hp10⟩ : ∃ p, p = wr.heap.size := ⟨_, rfl⟩
               rw [← hw4, ← hp10]
               have HB4 := Lib.hid (show Blk w4 p10 24 es ∧ Blk w4 (w.heap.size + 1 + 1) 24 cs ∧ Blk w4 (w.heap.size + 1) 24 Z16 ∧ w.grownBy w4 none from by
                 rw [hw4, hp10]
                 have hg4 := grown_row (World.grownBy_alloc wr (.cells Z16 24) none) (.inl (Nat.le_refl _)) es
                 exact ⟨(Blk.new wr 24 Z16).row es, HB.out.1.grown hg4 (by simp), HB.out.2.1.grown hg4 (by simp), grown_trans HB.out.2.2.1 hg4⟩)
               clear hw4 hp10)
            | (refine wpList_load_row rfl 24 _ rfl (w.heap.size + 1 + 1) rfl 24 cs (0, 0) _ HB4.out.2.1 Tryz.underlying24 rfl (by rw [HB.out.2.2.2]; exact info16) ?_)
            | (refine wpList_load_row rfl 24 _ rfl p10 rfl 24 es (0, 0) _ HB4.out.1 Tryz.underlying24 rfl (by rw [HES.out.1]; exact info16) ?_))
          refine (J.out w4 HB4.out.2.2.2).mono ?_
          rintro e w5 ⟨rfl, hk5⟩
          have HB5 := Lib.hid (And.intro (HB4.out.2.1.grown hk5 (by simp)) (And.intro (HB4.out.2.2.1.grown hk5 (by simp)) (grown_trans HB4.out.2.2.2 hk5)))
          clear hk5
          go_wp2_with (refine wpList_store_row rfl 24 _ _ rfl (w.heap.size + 1 + 1) ns rfl rfl 24 _ HB5.out.1 (by rw [HNS.out.1]; exact info16) (by rw [HB.out.2.2.2, HNS.out.1]) HNS.out.2.1 ?_)
          go_roundw
          case rel => exact ⟨2, by omega, rfl, by rw [← HNS.out.2.2]; exact HB5.out.1.row ns, HB5.out.2.1.farRow (by omega) ns, grown_row HB5.out.2.2 (.inl (by omega)) ns⟩
          case measure => simp [intOf]
        · subst hi
          have hand' : bits .and .i64 (lf / 4) 1 = 1 := by simpa using hand
          clear hand
          go_wp2_with (first
            | (refine wpList_load_mid rfl 24 _ rfl b _ rfl el _ HES.out.2.2.1 Tryz.underlying24 rfl HES.out.2.2.2.1 ?_; rw [HES.out.2.2.2.2])
            | (refine wpList_store_row rfl 24 _ _ rfl wr.heap.size es rfl rfl 24 _ (heap_alloc_new wr _) (by rw [HES.out.1]; exact info16) (by rw [HD.out.2.2.1, HES.out.1]) HES.out.2.1 ?_
               obtain ⟨w4, hw4⟩ : ∃ w4, w4 = (wr.alloc (.cells Z16 24)).setRow wr.heap.size es := ⟨_, rfl⟩
               obtain ⟨p10, hp10⟩ : ∃ p, p = wr.heap.size := ⟨_, rfl⟩
               rw [← hw4, ← hp10]
               have HB4 := Lib.hid (show Blk w4 p10 24 es ∧ Blk w4 (w.heap.size + 1 + 1) 24 cs ∧ Blk w4 (w.heap.size + 1) 24 Z16 ∧ w.grownBy w4 none from by
                 rw [hw4, hp10]
                 have hg4 := grown_row (World.grownBy_alloc wr (.cells Z16 24) none) (.inl (Nat.le_refl _)) es
                 exact ⟨(Blk.new wr 24 Z16).row es, HB.out.1.grown hg4 (by simp), HB.out.2.1.grown hg4 (by simp), grown_trans HB.out.2.2.1 hg4⟩)
               clear hw4 hp10)
            | (refine wpList_load_row rfl 24 _ rfl (w.heap.size + 1 + 1) rfl 24 cs (0, 0) _ HB4.out.2.1 Tryz.underlying24 rfl (by rw [HB.out.2.2.2]; exact info16) ?_)
            | (refine wpList_load_row rfl 24 _ rfl p10 rfl 24 es (0, 0) _ HB4.out.1 Tryz.underlying24 rfl (by rw [HES.out.1]; exact info16) ?_))
          refine (J.out w4 HB4.out.2.2.2).mono ?_
          rintro e w5 ⟨rfl, hk5⟩
          have HB5 := Lib.hid (And.intro (HB4.out.2.1.grown hk5 (by simp)) (And.intro (HB4.out.2.2.1.grown hk5 (by simp)) (grown_trans HB4.out.2.2.2 hk5)))
          clear hk5
          go_wp2_with (refine wpList_store_row rfl 24 _ _ rfl (w.heap.size + 1 + 1) ns rfl rfl 24 _ HB5.out.1 (by rw [HNS.out.1]; exact info16) (by rw [HB.out.2.2.2, HNS.out.1]) HNS.out.2.1 ?_)
          go_roundw
          case rel => exact ⟨3, by omega, rfl, by rw [← HNS.out.2.2]; exact HB5.out.1.row ns, HB5.out.2.1.farRow (by omega) ns, grown_row HB5.out.2.2 (.inl (by omega)) ns⟩
          case measure => simp [intOf]
        · subst hi
          have hand' : bits .and .i64 (lf / 8) 1 = 1 := by simpa using hand
          clear hand
          go_wp2_with (first
            | (refine wpList_load_mid rfl 24 _ rfl b _ rfl el _ HES.out.2.2.1 Tryz.underlying24 rfl HES.out.2.2.2.1 ?_; rw [HES.out.2.2.2.2])
            | (refine wpList_store_row rfl 24 _ _ rfl wr.heap.size es rfl rfl 24 _ (heap_alloc_new wr _) (by rw [HES.out.1]; exact info16) (by rw [HD.out.2.2.1, HES.out.1]) HES.out.2.1 ?_
               obtain ⟨w4, hw4⟩ : ∃ w4, w4 = (wr.alloc (.cells Z16 24)).setRow wr.heap.size es := ⟨_, rfl⟩
               obtain ⟨p10, hp10⟩ : ∃ p, p = wr.heap.size := ⟨_, rfl⟩
               rw [← hw4, ← hp10]
               have HB4 := Lib.hid (show Blk w4 p10 24 es ∧ Blk w4 (w.heap.size + 1 + 1) 24 cs ∧ Blk w4 (w.heap.size + 1) 24 Z16 ∧ w.grownBy w4 none from by
                 rw [hw4, hp10]
                 have hg4 := grown_row (World.grownBy_alloc wr (.cells Z16 24) none) (.inl (Nat.le_refl _)) es
                 exact ⟨(Blk.new wr 24 Z16).row es, HB.out.1.grown hg4 (by simp), HB.out.2.1.grown hg4 (by simp), grown_trans HB.out.2.2.1 hg4⟩)
               clear hw4 hp10)
            | (refine wpList_load_row rfl 24 _ rfl (w.heap.size + 1 + 1) rfl 24 cs (0, 0) _ HB4.out.2.1 Tryz.underlying24 rfl (by rw [HB.out.2.2.2]; exact info16) ?_)
            | (refine wpList_load_row rfl 24 _ rfl p10 rfl 24 es (0, 0) _ HB4.out.1 Tryz.underlying24 rfl (by rw [HES.out.1]; exact info16) ?_))
          refine (J.out w4 HB4.out.2.2.2).mono ?_
          rintro e w5 ⟨rfl, hk5⟩
          have HB5 := Lib.hid (And.intro (HB4.out.2.1.grown hk5 (by simp)) (And.intro (HB4.out.2.2.1.grown hk5 (by simp)) (grown_trans HB4.out.2.2.2 hk5)))
          clear hk5
          go_wp2_with (refine wpList_store_row rfl 24 _ _ rfl (w.heap.size + 1 + 1) ns rfl rfl 24 _ HB5.out.1 (by rw [HNS.out.1]; exact info16) (by rw [HB.out.2.2.2, HNS.out.1]) HNS.out.2.1 ?_)
          go_roundw
          case rel => exact ⟨4, by omega, rfl, by rw [← HNS.out.2.2]; exact HB5.out.1.row ns, HB5.out.2.1.farRow (by omega) ns, grown_row HB5.out.2.2 (.inl (by omega)) ns⟩
          case measure => simp [intOf]
        · subst hi
          have hand' : bits .and .i64 (lf / 16) 1 = 1 := by simpa using hand
          clear hand
          go_wp2_with (first
            | (refine wpList_load_mid rfl 24 _ rfl b _ rfl el _ HES.out.2.2.1 Tryz.underlying24 rfl HES.out.2.2.2.1 ?_; rw [HES.out.2.2.2.2])
            | (refine wpList_store_row rfl 24 _ _ rfl wr.heap.size es rfl rfl 24 _ (heap_alloc_new wr _) (by rw [HES.out.1]; exact info16) (by rw [HD.out.2.2.1, HES.out.1]) HES.out.2.1 ?_
               obtain ⟨w4, hw4⟩ : ∃ w4, w4 = (wr.alloc (.cells Z16 24)).setRow wr.heap.size es := ⟨_, rfl⟩
               obtain ⟨p10, hp10⟩ : ∃ p, p = wr.heap.size := ⟨_, rfl⟩
               rw [← hw4, ← hp10]
               have HB4 := Lib.hid (show Blk w4 p10 24 es ∧ Blk w4 (w.heap.size + 1 + 1) 24 cs ∧ Blk w4 (w.heap.size + 1) 24 Z16 ∧ w.grownBy w4 none from by
                 rw [hw4, hp10]
                 have hg4 := grown_row (World.grownBy_alloc wr (.cells Z16 24) none) (.inl (Nat.le_refl _)) es
                 exact ⟨(Blk.new wr 24 Z16).row es, HB.out.1.grown hg4 (by simp), HB.out.2.1.grown hg4 (by simp), grown_trans HB.out.2.2.1 hg4⟩)
               clear hw4 hp10)
            | (refine wpList_load_row rfl 24 _ rfl (w.heap.size + 1 + 1) rfl 24 cs (0, 0) _ HB4.out.2.1 Tryz.underlying24 rfl (by rw [HB.out.2.2.2]; exact info16) ?_)
            | (refine wpList_load_row rfl 24 _ rfl p10 rfl 24 es (0, 0) _ HB4.out.1 Tryz.underlying24 rfl (by rw [HES.out.1]; exact info16) ?_))
          refine (J.out w4 HB4.out.2.2.2).mono ?_
          rintro e w5 ⟨rfl, hk5⟩
          have HB5 := Lib.hid (And.intro (HB4.out.2.1.grown hk5 (by simp)) (And.intro (HB4.out.2.2.1.grown hk5 (by simp)) (grown_trans HB4.out.2.2.2 hk5)))
          clear hk5
          go_wp2_with (refine wpList_store_row rfl 24 _ _ rfl (w.heap.size + 1 + 1) ns rfl rfl 24 _ HB5.out.1 (by rw [HNS.out.1]; exact info16) (by rw [HB.out.2.2.2, HNS.out.1]) HNS.out.2.1 ?_)
          go_roundw
          case rel => exact ⟨5, by omega, rfl, by rw [← HNS.out.2.2]; exact HB5.out.1.row ns, HB5.out.2.1.farRow (by omega) ns, grown_row HB5.out.2.2 (.inl (by omega)) ns⟩
          case measure => simp [intOf]
    · obtain rfl : k = 5 := by omega
      have hr : cs = rs := by rw [hcs, HN.out.2.2.2.2.1]
      subst hr
      have HB := Lib.hid (And.intro hB (And.intro hZ (And.intro hG (And.intro hsz (show (cs.all fun v => v.oneCell') = true by rw [hcs]; exact arr_one _ _)))))
      subst hi
      clear hB hZ hG hk hlt hcs hdk hsz
      go_wp2_with (first
        | (refine wpList_load_row rfl 24 _ rfl (w.heap.size + 1 + 1) rfl 24 cs (0, 0) _ HB.out.1 Tryz.underlying24 rfl (by rw [HB.out.2.2.2.1]; exact info16) ?_)
        | (refine wpList_store_row rfl 24 _ _ rfl (w.heap.size + 1) cs rfl rfl 24 _ HB.out.2.1 (by rw [HB.out.2.2.2.1]; exact info16) (by rw [HD.out.2.2.1, HB.out.2.2.2.1]) HB.out.2.2.2.2 ?_))
      refine bodyPost_ret (results_cell_t rfl _ _ _ ⟨w.heap.size + 1, 0, none⟩ (.agg cs) rfl (run_loadVar_row _ (w.heap.size + 1) 24 24 cs (0, 0) _ (HB.out.2.1.row cs) Tryz.underlying24 rfl (by rw [HB.out.2.2.2.1]; exact info16))) rfl ?_
      exact ⟨rfl, grown_row HB.out.2.2.1 (.inl (by omega)) cs⟩
end Go.Proofs.YtmoebkdbnldbdaaGreatDoor
/-
  Trees of digests, plain: nodes, levels, ways up.
-/

namespace Go.Proofs.YtmoebkdbnldbdaaGreatDoor
open Go.RowKit

/-- The j-th digest of the level of that height. -/
def nodeC (ps : List (List Int)) : Nat → Nat → List Int
  | 0, j => ps.getD j zeroC
  | h + 1, j => joinC (nodeC ps h (2 * j)) (nodeC ps h (2 * j + 1))
theorem nodeC_dig {ps : List (List Int)} (hps : ∀ p ∈ ps, isDig p) : ∀ h j, isDig (nodeC ps h j)
  | 0, j => getD_dig hps j
  | h + 1, j => by rw [nodeC]; exact joinC_dig _ _
/-- The first n digests of a level. -/
def levC (ps : List (List Int)) (h n : Nat) : List (List Int) := upto (nodeC ps h) n
theorem levC_length (ps : List (List Int)) (h n : Nat) : (levC ps h n).length = n := upto_length _ _
theorem levC_get {ps : List (List Int)} {h n k : Nat} (hk : k < n) : (levC ps h n).getD k zeroC = nodeC ps h k := by
  simp [levC, upto, List.getD, List.getElem?_map, List.getElem?_range hk]
theorem levC_dig {ps : List (List Int)} (hps : ∀ p ∈ ps, isDig p) (h n : Nat) : ∀ p ∈ levC ps h n, isDig p := by
  intro p hp
  simp only [levC, upto, List.mem_map] at hp
  obtain ⟨k, _, rfl⟩ := hp
  exact nodeC_dig hps h k
theorem levC_zero {ps : List (List Int)} {n : Nat} (hl : ps.length = n) : levC ps 0 n = ps := by
  subst hl
  refine List.ext_getElem (by rw [levC_length]) fun i h1 h2 => ?_
  simp [levC, upto, nodeC, List.getD, h2]
/-- The k-th digest above these. -/
def pairC (ps : List (List Int)) (k : Nat) : List Int := joinC (ps.getD (2 * k) zeroC) (ps.getD (2 * k + 1) zeroC)
theorem pairC_dig (ps : List (List Int)) (k : Nat) : isDig (pairC ps k) := by rw [pairC]; exact joinC_dig _ _
theorem pairC_lev {ps : List (List Int)} {h n k : Nat} (hk : 2 * k + 1 < n) : pairC (levC ps h n) k = nodeC ps (h + 1) k := by
  rw [pairC, levC_get (by omega), levC_get hk, nodeC]
/-- The one beside. -/
def sib (j : Nat) : Nat := if j % 2 = 0 then j + 1 else j - 1
/-- The digest beside the way up from a leaf, at a height. -/
def wayC (ps : List (List Int)) (i h : Nat) : List Int := nodeC ps h (sib (i / 2 ^ h))
theorem wayC_dig {ps : List (List Int)} (hps : ∀ p ∈ ps, isDig p) (i h : Nat) : isDig (wayC ps i h) := nodeC_dig hps _ _
theorem climb_way (ps qs : List (List Int)) (i : Nat) (x : List Int) (hx : x = nodeC ps 0 i) : ∀ n, (∀ h, h < n → qs.getD h zeroC = wayC ps i h) → climbC x (i : Int) qs n = nodeC ps n (i / 2 ^ n)
  | 0, _ => by rw [climbC, hx, Nat.pow_zero, Nat.div_one]
  | n + 1, hq => by
    have ih := climb_way ps qs i x hx n (fun h hh => hq h (by omega))
    have e : i / 2 ^ (n + 1) = i / 2 ^ n / 2 := by rw [Nat.pow_succ, Nat.div_div_eq_div_mul]
    have ec : (i : Int) / 2 ^ n % 2 = ((i / 2 ^ n % 2 : Nat) : Int) := by
      have : (i : Int) / 2 ^ n = ((i / 2 ^ n : Nat) : Int) := by rw [Int.natCast_ediv]; simp
      rw [this]; omega
    rw [climbC, ih, hq n (by omega), wayC, ec, e, nodeC]
    generalize i / 2 ^ n = q
    by_cases hp : q % 2 = 0
    · rw [sib, if_pos (by omega), if_pos hp, show 2 * (q / 2) = q by omega]
    · rw [sib, if_neg (by omega), if_neg hp, show 2 * (q / 2) = q - 1 by omega, show q - 1 + 1 = q by omega]
theorem i64_xor1 : ∀ k : Fin 32, bits .xor .i64 ((k.1 : Nat) : Int) 1 = ((sib k.1 : Nat) : Int) := by decide
/-- Two leaves beside each other. -/
theorem sib_sib (i : Nat) : sib (sib i) = i := by
  unfold sib
  by_cases h : i % 2 = 0
  · rw [if_pos h, if_neg (by omega)]; omega
  · rw [if_neg h, if_pos (by omega)]; omega
theorem sib_half (i : Nat) : sib i / 2 = i / 2 := by unfold sib; split <;> omega
theorem way_beside (ps : List (List Int)) (i h : Nat) : wayC ps (sib i) (h + 1) = wayC ps i (h + 1) := by
  have e : ∀ x : Nat, x / 2 ^ (h + 1) = x / 2 / 2 ^ h := fun x => by rw [Nat.pow_succ, Nat.mul_comm, Nat.div_div_eq_div_mul]
  rw [wayC, wayC, e, e, sib_half]
end Go.Proofs.YtmoebkdbnldbdaaGreatDoor
