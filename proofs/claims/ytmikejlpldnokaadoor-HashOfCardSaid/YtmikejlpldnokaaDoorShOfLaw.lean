/-
  HashOf, walked.
-/
import Derived.Test.YtmikejlpldnokaaDoorRfOf
import Derived.Test.YtmikejlpldnokaaDoorShAlive
import Derived.Test.YtmikejlpldnokaaDoorArrEq
import Derived.Test.YtmikejlpldnokaaDoorArgL
import Derived.Test.YtmikejlpldnokaaDoorAp
import Derived.Test.YtmikejlpldnokaaDoorNb
namespace Go.Proofs.YtmikejlpldnokaaDoor
open Go.RowKit

theorem stri : (Tryd.prog.info? 9).map (fun i => (i.zero, i.size, i.bytes)) = some (some (.string ByteArray.empty), 1, 16) := by kernel_rfl
theorem eqD (w : World) (l : List Int) (h : l.length = 16) : Sem.run Tryd.prog (Op.equalIn 10000 33 (.agg (arrV .u8 l)) (.agg (arrV .u8 l))) w = .ok true w := by
  have := eq_arr w 9998 Tryd.underlying33 (by kernel_rfl) Tryd.underlying5 (by kernel_rfl) (by kernel_rfl) l l h h
  rw [this]; simp
theorem ListsAt.parts {w : World} {A : Option Addr} {ps : List (List UInt8)} (h : ListsAt w A ps) : PartsI w A (ps.map intsB) := fun j hj => by
  rw [List.length_map] at hj
  obtain ⟨ad, B, c, e, h1, h2, h3⟩ := h.get j hj
  have hg : (ps.map intsB).getD j [] = intsB (ps.getD j []) := by simp [List.getD, hj]
  rw [hg, intsB_length]
  exact ⟨ad, B, _, c, e, h1, rfl, h2, BytesI.of h3⟩
theorem own_keep {w w' : World} {base size n : Nat} {e : TypeId} {v : Value} {xs : List Value} (h : w.ownsRow base e size v n xs) (hg : w.grownBy w' none) : w'.ownsRow base e size v n xs :=
  h.kept hg (by cases hv : v.ownBlock <;> simp)
theorem own_texts {w : World} {base : Nat} {e : TypeId} {v : Value} {n : Nat} {ts : List ByteArray} (h : w.ownsRow base e 1 v n (ts.map Value.string)) : ∃ A cap, v = .slice A n cap ∧ TextsI w A ts ∧ n ≤ cap ∧ ts.length = n := by
  have hl : ts.length = n := by have := h.1; simpa using this
  rcases h.2 with ⟨rfl, h0⟩ | ⟨g, cap, cur, rfl, hb, hg, hnc, _, hsz, ht⟩
  · subst h0
    exact ⟨none, 0, rfl, fun j hj => by omega, Nat.le_refl _, hl⟩
  · refine ⟨_, cap, rfl, fun j hj => ⟨_, rfl, ?_⟩, hnc, hl⟩
    rw [add_none, Nat.zero_add, Joins.cell_of_block hg j, ← Array.getElem?_toList]
    have e1 : (cur.toList.take (n * 1))[j]? = cur.toList[j]? := by rw [List.getElem?_take, if_pos (by omega)]
    rw [← e1, ht]
    simp [List.getD, List.getElem?_eq_getElem hj]
def strs (ps : List (List UInt8)) : List ByteArray := ps.map fun l => ⟨l.toArray⟩
theorem strs_ints (ps : List (List UInt8)) : (strs ps).map xsOf = ps.map intsB := by
  simp [strs, List.map_map, Function.comp_def, xsOf_mk]

set_option maxRecDepth 100000 in
set_option maxHeartbeats 2000000 in
theorem of_any (w : World) (hR : Rounds w) (a0 : Int) (A : Option Addr) (n c : Nat) (ps : List (List UInt8)) (hn : ps.length = n) (hP : ListsAt w A ps) :
    Calls Tryd.prog 4 #[.int .i64 a0, .slice A n c] w fun e w' => e = .returned (.bool true) ∧ w.grownBy w' none := by
  obtain ⟨i0, hi0, hz0, hz1, hz2⟩ := info_parts stri
  have HI0 := Lib.hid (And.intro hi0 (And.intro hz0 (And.intro hz1 hz2)))
  have HX := Lib.hid (And.intro hn hP)
  have HR := Lib.hid hR
  clear hi0 hz0 hz1 hz2 hn hP hR
  go_enter Tryd.func4, Tryd.ntmps4
  go_wp2_with fail
  refine (alive_is w HR.out).mono ?_
  rintro e w1 ⟨rfl, hk1⟩
  have HK1 := Lib.hid hk1
  clear hk1
  by_cases hbig : 30 < n
  · have d1 : decide (30 < (n : Int)) = true := by simp; omega
    go_wp2_with fail
    go_ret
    exact ⟨rfl, HK1.out⟩
  · have d1 : decide (30 < (n : Int)) = false := by simp; omega
    have HN := Lib.hid hbig
    clear hbig
    go_wp2_with fail
    have HO1 := Lib.hid (World.ownsRow_lit (base := w.heap.size) (e := 9) (size := 1) w1 #[] 0 HK1.out.size (by decide) rfl)
    have HK2 := Lib.hid (grown_trans HK1.out (World.grownBy_alloc w1 (.cells #[] 9) none))
    go_loopw [5, 16] (fun v i wr => ∃ k : Nat, k ≤ n ∧ i = .int .i64 (k : Int) ∧ wr.ownsRow w.heap.size 9 1 v k ((strs (ps.take k)).map Value.string) ∧ (∀ p ∈ ps.take k, p.length ≤ 200) ∧ w.grownBy wr none) (fun _ i _ => n - (intOf i).toNat)
    case atStart => exact ⟨0, by omega, rfl, HO1.out, by simp, HK2.out⟩
    case round =>
      obtain ⟨k, hk, hi, hown, hlen, hK⟩ := hrel
      obtain ⟨I, hI⟩ : ∃ I : Int, I = (k : Int) := ⟨_, rfl⟩
      rw [← hI] at hi
      subst hi
      by_cases hlt : k < n
      · have d2 : decide (I < (n : Int)) = true := by simp; omega
        obtain ⟨ad, B, cp, rfl, hcell, hmc, hpb⟩ := HX.out.2.get k (by rw [HX.out.1]; exact hlt)
        obtain ⟨p, hp⟩ : ∃ p, p = ps.getD k [] := ⟨_, rfl⟩
        rw [← hp] at hcell hmc hpb
        have hkI : I.toNat = k := by omega
        have hcy : wr.cell? (ad.add I.toNat) = some (.slice B p.length cp) := by rw [hkI]; exact hK.cell hcell (by simp)
        have hx0 : 0 ≤ I ∧ I < (n : Int) := by omega
        have hnx : ps.take (k + 1) = ps.take k ++ [p] := by rw [hp]; exact take_push' ps k [] (by rw [HX.out.1]; exact hlt)
        have HI := Lib.hid (And.intro hI (And.intro hlt (And.intro hnx hlen)))
        have HP := Lib.hid (hpb.grown hK (by simp))
        have HO := Lib.hid hown
        have HK := Lib.hid hK
        clear hI hlt hcell hmc hpb hp hkI hnx hlen hown hK hk
        by_cases hlong : 200 < p.length
        · have d3 : decide (200 < (p.length : Int)) = true := by simp; omega
          go_wp2_with fail
          go_ret
          exact ⟨rfl, HK.out⟩
        · have d3 : decide (200 < (p.length : Int)) = false := by simp; omega
          have hcv := HP.out.str cp p.length rfl
          have HL := Lib.hid hlong
          clear hlong
          go_wp2_with (at_builtin
                       refine wpList_push rfl _ _ 31 rfl w.heap.size 9 9 i0 (.string ByteArray.empty) 16 Tryd.underlying31 HI0.out.1 HI0.out.2.1 HI0.out.2.2.1 HI0.out.2.2.2 rfl _ _ _ rfl HO.out _ rfl rfl (by have := HN.out; have := HI.out.2.1; omega) (by omega) HK.out.size ?_
                       intro v' w3 hown3 hgrow
                       have HO3 := Lib.hid hown3
                       have HK3 := Lib.hid (grown_own HK.out hgrow HO.out (Nat.le_refl _))
                       clear hown3 hgrow)
          go_roundw
          case rel =>
            obtain ⟨hI, hlt, hnx, hlen⟩ := HI.out
            have := HN.out
            refine ⟨k + 1, by omega, by rw [hI, w64 _ ⟨by omega, by omega⟩]; rfl, ?_, ?_, HK3.out⟩
            · rw [hnx, strs, List.map_append, List.map_append]; exact HO3.out
            · rw [hnx]
              intro q hq
              rcases List.mem_append.1 hq with h | h
              · exact hlen q h
              · rw [List.mem_singleton.1 h]; have := HL.out; omega
          case measure => obtain ⟨hI, hlt, _⟩ := HI.out; have := HN.out; simp only [intOf]; rw [w64 _ ⟨by omega, by omega⟩]; omega
      · have d2 : decide (I < (n : Int)) = false := by simp; omega
        obtain rfl : k = n := by omega
        rw [List.take_of_length_le (by rw [HX.out.1]; exact Nat.le_refl _)] at hown hlen
        have HO := Lib.hid hown
        have HL := Lib.hid hlen
        have HK := Lib.hid hK
        clear hI hlt hk hown hlen hK
        go_wp2_with fail
        refine (of_is wr (HR.out.grown HK.out (by simp)) a0 A k c (ps.map intsB) (by rw [List.length_map, HX.out.1]) (HX.out.2.grown HK.out).parts (by have := HN.out; omega) (fun p hp => by
            obtain ⟨q, hq, rfl⟩ := List.mem_map.1 hp
            rw [intsB_length]; have := HL.out q hq; omega)).mono ?_
        rintro e w5 ⟨rfl, hk5⟩
        obtain ⟨ds, hds⟩ : ∃ ds, ds = arrV .u8 (ofS a0 (ps.map intsB)) := ⟨_, rfl⟩
        rw [← hds]
        have HDS := Lib.hid hds
        have HK5 := Lib.hid (grown_trans HK.out hk5)
        have HO5 := Lib.hid (own_keep HO.out hk5)
        clear hds hk5
        obtain ⟨A5, cap5, rfl, hT5, hc5, hl5⟩ := own_texts HO5.out
        go_wp2_with fail
        have htot := framedL_le a0 200 ((strs ps).map xsOf) (fun q hq => by
          rw [strs_ints] at hq
          obtain ⟨l, hl, rfl⟩ := List.mem_map.1 hq
          rw [intsB_length]; exact HL.out l hl)
        refine (rof_is w5 a0 A5 k cap5 (strs ps) hl5 hT5 (by have := HN.out; omega) (fun t ht => by
            obtain ⟨l, hl, rfl⟩ := List.mem_map.1 ht
            have := HL.out l hl
            show l.toArray.size ≤ _
            simp; omega) (by rw [List.length_map, hl5] at htot; have := HN.out; omega)).mono ?_
        rintro e w6 ⟨rfl, hk6⟩
        rw [strs_ints, ← HDS.out]
        have HK6 := Lib.hid (grown_trans HK5.out hk6)
        have heq : ∀ w, Sem.run Tryd.prog (Op.equalIn 10000 33 (.agg ds) (.agg ds)) w = .ok true w := fun w => by rw [HDS.out]; exact eqD w _ (ofS_length _ _)
        clear htot hT5 hc5 hl5 hk6
        go_wp2_with fail
        go_ret
        exact ⟨rfl, HK6.out⟩
end Go.Proofs.YtmikejlpldnokaaDoor
