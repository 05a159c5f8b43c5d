/-
  Several texts in one: PwU, PwE, PwR, PwV.
-/
import Derived.Test.YtmoebkdbnldbdaaGreatDoorM20pp
import Derived.DeepKeys
/-
  Sum, Enough, Few.
-/

namespace Go.Proofs.YtmoebkdbnldbdaaGreatDoor
open Go.RowKit

def inR (V : List Vd) (who : List Int) : Bool := who.all fun i => decide (0 ≤ i) && decide (i < (V.length : Int))
def sumCode (V : List Vd) (who : List Int) : Nat := if rightS V then if inR V who then if decide who.Nodup then 0 else 3 else 2 else 1
def sumVal (V : List Vd) (who : List Int) : Int := if sumCode V who = 0 then (powersAt V who).sum else 0
def codeV (es er et : Addr) : Nat → Value
  | 0 => .nilIface
  | 1 => errV es
  | 2 => errV er
  | _ => errV et
theorem inR_iff {V : List Vd} {who : List Int} : inR V who = true ↔ ∀ i ∈ who, 0 ≤ i ∧ i < (V.length : Int) := by
  simp [inR]
theorem nodup_snoc {l : List Int} {k : Nat} (h : k < l.length) (hn : (l.take k).Nodup) (hx : l[k] ∉ l.take k) : (l.take (k + 1)).Nodup := by
  rw [← List.take_append_getElem h, List.nodup_append]
  refine ⟨hn, by simp, fun a ha b hb => ?_⟩
  obtain rfl : b = l[k] := by simpa using hb
  exact fun e => hx (e ▸ ha)
theorem not_nodup {l : List Int} {k : Nat} (h : k < l.length) (hx : l[k] ∈ l.take k) : ¬ l.Nodup := fun hn => by
  have h1 : (l.take (k + 1)).Nodup := hn.sublist (List.take_sublist _ _)
  rw [← List.take_append_getElem h, List.nodup_append] at h1
  exact h1.2.2 _ hx _ (by simp) rfl
theorem powersAt_range {V : List Vd} {who : List Int} (hr : rightS V = true) (hi : inR V who = true) : ∀ z ∈ powersAt V who, 1 ≤ z ∧ z ≤ 1099511627776 := fun z hz => by
  obtain ⟨i, hi', rfl⟩ := List.mem_map.1 hz
  obtain ⟨h1, h2⟩ := inR_iff.1 hi i hi'
  have hk : i.toNat < V.length := by omega
  have := ((rightS_iff V).1 hr).2 _ hk
  simp only [List.getElem?_eq_getElem hk, Option.map_some, Option.getD_some]
  exact ⟨this.1, this.2.1⟩
theorem IntsAt.take {w : World} {A : Option Addr} {l : List Int} (h : IntsAt w A l) (k : Nat) : IntsAt w A (l.take k) := fun hl => by
  obtain ⟨ad, rfl, hc⟩ := h (by rintro rfl; simp at hl)
  exact ⟨ad, rfl, fun j hj => by rw [hc j (by simp at hj; omega)]; simp⟩

set_option maxRecDepth 100000 in
set_option maxHeartbeats 1000000 in
theorem sum_is (w : World) (A A2 : Option Addr) (c c2 B : Nat) (V : List Vd) (who : List Int) (es er et : Addr) (hV : VdsAt w A V) (ok : keysOk V) (hl : V.length < 1000) (hU : IntsAt w A2 who) (hwl : who.length ≤ 100) (hc2 : who.length ≤ c2) (hB : B ≤ w.heap.size) (he : ErrAt w B 10 es) (her : ErrAt w B 1 er) (het : ErrAt w B 16 et) :
    Calls Tryz.prog 88 #[.slice A V.length c, .slice A2 who.length c2] w fun e w' => e = .returned (.tuple #[.int .i64 (sumVal V who), codeV es er et (sumCode V who)]) ∧ Below w.heap.size w w' := by
  have HV := Lib.hid (And.intro hV (And.intro ok (And.intro hl (And.intro hB (And.intro he (And.intro her het))))))
  have HU := Lib.hid (And.intro hU (And.intro hwl hc2))
  clear hV ok hB he her het hU
  cases hr : rightS V with
  | false =>
    have h1 : sumCode V who = 1 := by simp [sumCode, hr]
    rw [show sumVal V who = 0 by simp [sumVal, h1], h1, codeV]
    have HR := Lib.hid hr
    clear hr h1 hl hwl
    go_enter Tryz.func88, Tryz.ntmps88
    go_wp2_with fail
    refine (check_is w A c B V es HV.out.1 HV.out.2.1 HV.out.2.2.1 HV.out.2.2.2.2.1).mono ?_
    rintro e w1 ⟨hk1, ⟨h, _⟩ | ⟨_, rfl⟩⟩
    · rw [HR.out] at h; cases h
    · have HK := Lib.hid hk1
      clear hk1
      go_wp2_with fail
      go_ret2
      exact ⟨rfl, grown_above HK.out⟩
  | true =>
    have HR := Lib.hid hr
    clear hr
    go_enter Tryz.func88, Tryz.ntmps88
    go_wp2_with fail
    refine (check_is w A c B V es HV.out.1 HV.out.2.1 HV.out.2.2.1 HV.out.2.2.2.2.1).mono ?_
    rintro e w1 ⟨hk1, ⟨_, rfl⟩ | ⟨h, _⟩⟩
    · have hU1 := HU.out.1.above (grown_above hk1)
      have e2 := (HV.out.2.2.2.2.2.1.grown hk1 (fun _ e => by cases e)).1
      have e3 := (HV.out.2.2.2.2.2.2.grown hk1 (fun _ e => by cases e)).1
      have HK := Lib.hid hk1
      clear hk1
      go_wp2_with fail
      go_loop [18] (fun i => ∃ k : Nat, k ≤ who.length ∧ i = .int .i64 (k : Int) ∧ (∀ j (h : j < who.length), j < k → 0 ≤ who[j] ∧ who[j] < (V.length : Int))) (fun i => who.length - (intOf i).toNat)
      case atStart => exact ⟨0, Nat.zero_le _, rfl, fun j _ h => absurd h (by omega)⟩
      case round =>
        obtain ⟨k, hkl, hi, hno⟩ := hrel
        obtain ⟨I, hI⟩ : ∃ I : Int, I = (k : Int) := ⟨_, rfl⟩
        rw [← hI] at hi
        subst hi
        have HN := Lib.hid (And.intro hno (And.intro hkl hI))
        have HU1 := Lib.hid hU1
        by_cases hlt : k < who.length
        · have d1 : decide (I < (who.length : Int)) = true := by simp; omega
          have hne : who ≠ [] := by rintro rfl; simp at hlt
          have hIV : I < (who.length : Int) := by omega
          have hI0 : 0 ≤ I ∧ I < 1000 := by omega
          obtain ⟨b2, off2, rfl, hcs⟩ := hU1.get hne
          obtain ⟨z, hz⟩ : ∃ z, z = who[k] := ⟨_, rfl⟩
          have c1 : w1.cell? ⟨b2, off2 + I.toNat, none⟩ = some (.int .i64 z) := by rw [show I.toNat = k by omega, hz]; exact hcs k hlt
          have hbad := Lib.hid (show ¬ (0 ≤ z ∧ z < (V.length : Int)) → sumCode V who = 2 from fun h => by
            have h2 : inR V who = false := by
              cases h3 : inR V who with
              | false => rfl
              | true => exact absurd (inR_iff.1 h3 z (by rw [hz]; exact List.getElem_mem hlt)) h
            simp [sumCode, HR.out, h2])
          have HZ := Lib.hid (show ∃ h : k < who.length, z = who[k] from ⟨hlt, hz⟩)
          clear hno hkl hI hne hcs hz hU1 hlt hwl hc2 hl
          by_cases z1 : z < 0
          · have z1' : decide (z < 0) = true := by simpa using z1
            have Hb := Lib.hid (hbad.out (by omega))
            clear z1
            go_wp2_with fail
            go_quiet (fail)
            go_wp2_with fail
            go_ret2
            exact ⟨by rw [show sumVal V who = 0 by simp [sumVal, Hb.out], Hb.out]; rfl, below_drewN (grown_above HK.out) _⟩
          · have z1' : decide (z < 0) = false := by simpa using z1
            by_cases z2 : (V.length : Int) ≤ z
            · have z2' : decide ((V.length : Int) ≤ z) = true := by simpa using z2
              have Hb := Lib.hid (hbad.out (by omega))
              clear z1 z2
              go_wp2_with fail
              go_quiet (fail)
              go_wp2_with fail
              go_ret2
              exact ⟨by rw [show sumVal V who = 0 by simp [sumVal, Hb.out], Hb.out]; rfl, below_drewN (grown_above HK.out) _⟩
            · have z2' : decide ((V.length : Int) ≤ z) = false := by simpa using z2
              have HZ1 := Lib.hid (And.intro z1 z2)
              clear z1 z2
              go_wp2_with fail
              go_round
              case rel =>
                obtain ⟨n1, n2, n3⟩ := HN.out
                obtain ⟨n5, n4⟩ := HZ.out
                refine ⟨k + 1, by omega, by rw [n3]; rfl, fun j hj hjk => ?_⟩
                by_cases hjk' : j < k
                · exact n1 j hj hjk'
                · obtain rfl : j = k := by omega
                  rw [← n4]; have := HZ1.out; omega
              case measure => obtain ⟨n1, n2, n3⟩ := HN.out; obtain ⟨n5, n4⟩ := HZ.out; simp [intOf]; omega
        · have d1 : decide (I < (who.length : Int)) = false := by simp; omega
          have hin : inR V who = true := inR_iff.2 fun i hi => by
            obtain ⟨j, hj, rfl⟩ := List.getElem_of_mem hi
            exact hno j hj (by omega)
          have HI := Lib.hid hin
          clear hno hkl hI hlt hin hU1 HN hl
          go_wp2_with fail
          clear d1
          go_loop [34] (fun i => ∃ k : Nat, k ≤ who.length ∧ i = .int .i64 (k : Int) ∧ (who.take k).Nodup) (fun i => who.length - (intOf i).toNat)
          case atStart => exact ⟨0, Nat.zero_le _, rfl, by simp⟩
          case round =>
            obtain ⟨k, hkl, hi, hno⟩ := hrel
            obtain ⟨I, hI⟩ : ∃ I : Int, I = (k : Int) := ⟨_, rfl⟩
            rw [← hI] at hi
            subst hi
            have HN := Lib.hid (And.intro hno (And.intro hkl hI))
            by_cases hlt : k < who.length
            · have d1 : decide (I < (who.length : Int)) = true := by simp; omega
              have hne : who ≠ [] := by rintro rfl; simp at hlt
              have hIV : I < (who.length : Int) := by omega
              have hI0 : 0 ≤ I ∧ I < 1000 := by omega
              have hIc : I ≤ (c2 : Int) := by omega
              obtain ⟨b2, off2, rfl, hcs⟩ := HU1.out.get hne
              obtain ⟨z, hz⟩ : ∃ z, z = who[k] := ⟨_, rfl⟩
              have c1 : w1.cell? ⟨b2, off2 + I.toNat, none⟩ = some (.int .i64 z) := by rw [show I.toNat = k by omega, hz]; exact hcs k hlt
              have HZ := Lib.hid (show ∃ h : k < who.length, z = who[k] from ⟨hlt, hz⟩)
              have HWL := Lib.hid hwl
              clear hno hkl hI hne hcs hz hlt hwl hc2
              go_wp2_with fail
              obtain ⟨bb, hbb⟩ : ∃ bb, decide (z ∈ who.take k) = bb := ⟨_, rfl⟩
              have HBB := Lib.hid hbb
              refine (contains_is w1 (some ⟨b2, off2, none⟩) I.toNat c2 (who.take k) z bb hbb (by obtain ⟨n1, n2, n3⟩ := HN.out; obtain ⟨n4, n5⟩ := HZ.out; simp; omega) (by have := HWL.out; omega) (HU1.out.take k)).mono ?_
              rintro e w2 ⟨rfl, rfl⟩
              clear hbb
              cases bb with
              | true =>
                have Hb := Lib.hid (show sumCode V who = 3 by
                  obtain ⟨n4, n5⟩ := HZ.out
                  have h1 : z ∈ who.take k := by simpa using HBB.out
                  rw [n5] at h1
                  simp [sumCode, HR.out, HI.out, not_nodup n4 h1])
                go_wp2_with fail
                go_quiet (fail)
                go_wp2_with fail
                go_ret2
                exact ⟨by rw [show sumVal V who = 0 by simp [sumVal, Hb.out], Hb.out]; rfl, below_drewN (grown_above HK.out) _⟩
              | false =>
                go_wp2_with fail
                go_round
                case rel =>
                  obtain ⟨n1, n2, n3⟩ := HN.out
                  obtain ⟨n4, n5⟩ := HZ.out
                  exact ⟨k + 1, by omega, by rw [n3]; rfl, nodup_snoc n4 n1 (by rw [← n5]; simpa using HBB.out)⟩
                case measure => obtain ⟨n1, n2, n3⟩ := HN.out; obtain ⟨n4, n5⟩ := HZ.out; simp [intOf]; omega
            · have d1 : decide (I < (who.length : Int)) = false := by simp; omega
              obtain rfl : k = who.length := by omega
              rw [List.take_length] at hno
              have hc0 : sumCode V who = 0 := by simp [sumCode, HR.out, HI.out, hno]
              have hv0 : sumVal V who = sumW (powersAt V who) := by
                rw [sumVal, if_pos hc0, sumW_sum _ (powersAt_range HR.out HI.out) (by simp [powersAt]; omega)]
              have HC := Lib.hid (And.intro hc0 hv0)
              have HWL := Lib.hid hwl
              clear hno hkl hI hlt hc0 hv0 hwl hc2 HN e2 e3
              go_wp2_with fail
              refine (those_is A A2 V.length c who.length c2 w1).mono ?_
              rintro e w2 ⟨rfl, rfl⟩
              go_wp2_with fail
              have hV2 := (HV.out.1.grown HK.out)
              have hU2 := HU1.out
              have g2 : w1.grownBy ((w1.alloc (.cells #[.slice A V.length c] 22)).alloc (.cells #[.slice A2 who.length c2] 153)) none := grown_trans (World.grownBy_alloc _ _ none) (World.grownBy_alloc _ _ none)
              have g3 : w1.grownBy (((w1.alloc (.cells #[.slice A V.length c] 22)).alloc (.cells #[.slice A2 who.length c2] 153)).alloc (.cells #[.int .i64 0] 3)) none := grown_trans g2 (World.grownBy_alloc _ _ none)
              have b1 := ((Boxed.new w1 22 (.slice A V.length c)).alloc (.cells #[.slice A2 who.length c2] 153)).alloc (.cells #[.int .i64 0] 3)
              have b2 := (Boxed.new (w1.alloc (.cells #[.slice A V.length c] 22)) 153 (.slice A2 who.length c2)).alloc (.cells #[.int .i64 0] 3)
              rw [World.size_alloc] at b2
              refine (add_is _ _ _ (enters_of Tryz.func115 (by kernel_rfl) rfl) (powersAt V who) who.length
                (those_stops 4 _ (by omega) A A2 c c2 V who HV.out.2.1 HV.out.2.2.1 (by have := HWL.out; omega) (inR_iff.1 HI.out) _ (hV2.grown g3) (fun a ha hne => by have := hV2.blk a ha hne; simp; omega)
                  (hU2.above (grown_above g3)) (fun a ha hne => by have := hU2.blk a ha hne; simp; omega) (by simp) (w1.heap.size + 1) w1.heap.size (by simp) (by simp; omega) b2.cell b1.cell)).mono ?_
              rintro e w3 ⟨rfl, hk3⟩
              rw [← HC.out.2]
              have HK3 := Lib.hid hk3
              have G2 := Lib.hid g2
              clear hk3 hV2 hU2 g2 g3 b1 b2
              go_wp2_with fail
              go_ret2
              refine ⟨by rw [HC.out.1]; rfl, above_trans (above_trans (grown_above HK.out) (grown_above G2.out)) HK3.out⟩
    · rw [HR.out] at h; cases h

theorem sumVal_bound {V : List Vd} {who : List Int} (hwl : who.length ≤ 100) : 0 ≤ sumVal V who ∧ sumVal V who ≤ 109951162777600 := by
  unfold sumVal
  by_cases h : sumCode V who = 0
  · rw [if_pos h]
    have hr : rightS V = true := by
      cases h1 : rightS V with
      | true => rfl
      | false => simp [sumCode, h1] at h
    have hi : inR V who = true := by
      cases h1 : inR V who with
      | true => rfl
      | false => simp [sumCode, hr, h1] at h
    have hb := sum_bounds 1099511627776 (by omega) _ (powersAt_range hr hi)
    have hl : (powersAt V who).length = who.length := by simp [powersAt]
    rw [hl] at hb
    omega
  · rw [if_neg h]; omega
theorem codeV_err {es er et : Addr} {k : Nat} (h : k ≠ 0) : ∃ a, codeV es er et k = errV a := by
  match k with
  | 0 => exact absurd rfl h
  | 1 => exact ⟨_, rfl⟩
  | 2 => exact ⟨_, rfl⟩
  | k + 3 => exact ⟨_, rfl⟩

def enoughS (V : List Vd) (who : List Int) : Bool := decide (sumCode V who = 0) && decide (quorumS V ≤ sumVal V who)
def fewS (V : List Vd) (who : List Int) : Bool := decide (sumCode V who = 0) && decide (3 * sumVal V who < totalS V)

set_option maxRecDepth 100000 in
set_option maxHeartbeats 1000000 in
theorem enough_is (w : World) (A A2 : Option Addr) (c c2 B : Nat) (V : List Vd) (who : List Int) (es er et : Addr) (hV : VdsAt w A V) (ok : keysOk V) (hl : V.length < 1000) (hU : IntsAt w A2 who) (hwl : who.length ≤ 100) (hc2 : who.length ≤ c2) (hB : B ≤ w.heap.size) (he : ErrAt w B 10 es) (her : ErrAt w B 1 er) (het : ErrAt w B 16 et) :
    Calls Tryz.prog 72 #[.slice A V.length c, .slice A2 who.length c2] w fun e w' => e = .returned (.bool (enoughS V who)) ∧ Below w.heap.size w w' := by
  have HV := Lib.hid (And.intro hV (And.intro ok (And.intro hl (And.intro hB (And.intro he (And.intro her het))))))
  have HU := Lib.hid (And.intro hU (And.intro hwl hc2))
  clear hV ok hB he her het hU hl hwl hc2
  go_enter Tryz.func72, Tryz.ntmps72
  go_wp2_with fail
  refine (sum_is w A A2 c c2 B V who es er et HV.out.1 HV.out.2.1 HV.out.2.2.1 HU.out.1 HU.out.2.1 HU.out.2.2 HV.out.2.2.2.1 HV.out.2.2.2.2.1 HV.out.2.2.2.2.2.1 HV.out.2.2.2.2.2.2).mono ?_
  rintro e w1 ⟨rfl, hk1⟩
  have HK := Lib.hid hk1
  clear hk1
  obtain ⟨s, hs⟩ : ∃ s, s = sumVal V who := ⟨_, rfl⟩
  rw [← hs]
  by_cases h0 : sumCode V who = 0
  · rw [h0, codeV]
    have HS := Lib.hid (And.intro hs h0)
    clear hs h0
    go_wp2_with fail
    refine (quorum_is w1 A c B V es (HV.out.1.above HK.out) HV.out.2.1 HV.out.2.2.1 (Nat.le_trans HV.out.2.2.2.1 HK.out.size) (HV.out.2.2.2.2.1.above HK.out HV.out.2.2.2.1)).mono ?_
    rintro e w3 ⟨rfl, hk3⟩
    obtain ⟨q, hq⟩ : ∃ q, q = quorumS V := ⟨_, rfl⟩
    rw [← hq]
    have HK3 := Lib.hid (And.intro hk3 hq)
    clear hk3 hq
    go_wp2_with fail
    go_ret
    refine ⟨by rw [enoughS, HS.out.2, ← HS.out.1, ← HK3.out.2]; rfl, above_trans HK.out HK3.out.1⟩
  · obtain ⟨a, ha⟩ := codeV_err (es := es) (er := er) (et := et) h0
    rw [ha]
    have HS := Lib.hid h0
    clear hs h0 ha
    go_wp2_with fail
    go_ret
    refine ⟨by simp [enoughS, HS.out], HK.out⟩

end Go.Proofs.YtmoebkdbnldbdaaGreatDoor
/-
  Rows of validators, compared: Same, and the document's Same.
-/
namespace Go.Proofs.YtmoebkdbnldbdaaGreatDoor
open Go.RowKit

section
variable {P : Program} {C : World → Prop} {a : Act} {o : Oper}
theorem quiet_load_mid {K : Act → Prop} (ty : TypeId) (x : Operand) (ho : o.op = .load ty x) (b off : Nat) (hx : a.eval x = .pointer (some ⟨b, off, none⟩)) (cs : List Value) (d : TypeDesc) (hc : ∀ w, C w → w.rangeAt b off cs)
    (hu : P.underlying ty = some d) (hd : d.isRow = true) (hi : (P.info? ty).map (·.size) = some cs.length) (hk : K (a.put o.dst (.agg cs.toArray))) : o.quiet P a C K :=
  ⟨_, fun w hw => by
    unfold Oper.quietAt execOp
    simp only [ho, hx, Instr.loadAt, Instr.sureAddr, Sem.run_bind, Sem.run_pure, Result.andThen_ok, run_loadVar_mid w b off ty cs d (hc w hw) hu hd hi]
    exact ⟨rfl, rfl⟩, hk⟩
end

section
variable {P : Program}
theorem part_agg (w : World) {t e : TypeId} {n : Nat} (hu : P.underlying t = some (.array n e)) (xs ys : Array Value) (o : Nat) (hi : (P.info? t).isSome = true) (h : xs.extract o (o + P.cellsOf t) = ys) :
    Sem.run P (part t xs o) w = .ok (.agg ys) w := by
  obtain ⟨i, hi⟩ := Option.isSome_iff_exists.1 hi
  simp [part, isAgg, run_underlying hu, run_sizeOf w hi, h]
theorem eqFields2 (w : World) (d : Nat) (xs ys : Array Value) (f g : Field) (hf : (f.name != "_") = true) (hg : (g.name != "_") = true) {a b c e : Value} {r1 r2 : Bool}
    (p1 : Sem.run P (part f.type xs f.offset) w = .ok a w) (p2 : Sem.run P (part f.type ys f.offset) w = .ok b w) (p3 : Sem.run P (part g.type xs g.offset) w = .ok c w) (p4 : Sem.run P (part g.type ys g.offset) w = .ok e w)
    (q1 : Sem.run P (Op.equalIn d f.type a b) w = .ok r1 w) (q2 : Sem.run P (Op.equalIn d g.type c e) w = .ok r2 w) : Sem.run P (Op.eqFields d xs ys [f, g]) w = .ok (r1 && r2) w := by
  have hf' : f.name ≠ "_" := by simpa using hf
  have hg' : g.name ≠ "_" := by simpa using hg
  simp only [Op.eqFields, hf', hg', ne_eq, not_false_eq_true, if_true, Sem.run_bind, p1, p2, q1, Result.andThen_ok]
  cases r1 <;> cases r2 <;> simp [p3, p4, q2]
end

theorem part_key (w : World) {x : Vd} (hx : x.key.length = 16) : Sem.run Tryz.prog (part 24 x.cells.toArray 0) w = .ok (.agg (arrV .u8 x.key)) w := by
  refine part_agg w Tryz.underlying24 _ _ 0 (by kernel_rfl) ?_
  rw [show Tryz.prog.cellsOf 24 = 16 by kernel_rfl]
  apply Array.toList_inj.1
  simp [Vd.cells, hx]
theorem part_power (w : World) {x : Vd} (hx : x.key.length = 16) : Sem.run Tryz.prog (part 3 x.cells.toArray 16) w = .ok (.int .i64 x.p) w :=
  run_part_plain w (by kernel_rfl) (by rw [List.getElem?_toArray, Vd.cells, List.getElem?_append_right (by simp [hx])]; simp [hx])

theorem eqV_at (w : World) (d : Nat) {x y : Vd} (hx : x.key.length = 16) (hy : y.key.length = 16) :
    Sem.run Tryz.prog (Op.equalIn (d + 3) 41 (.agg x.cells.toArray) (.agg y.cells.toArray)) w = .ok (decide (x.key = y.key) && (x.p == y.p)) w := by
  have hu := Tryz.underlying41
  have hf : Tryz.prog.underlying 41 = some (.struct (Tryz.prog.fieldsOf 41)) := by rw [Program.fieldsOf, hu]
  rw [run_equalIn_struct w (d + 2) _ _ _ hf (by kernel_rfl), Program.fieldsOf, hu]
  exact eqFields2 w (d + 2) _ _ _ _ rfl rfl (part_key w hx) (part_key w hy) (part_power w hx) (part_power w hy)
    (eq_arr w d Tryz.underlying24 (by kernel_rfl) Tryz.underlying5 (by kernel_rfl) (by kernel_rfl) _ _ hx hy) (run_equalIn_int w (d + 1) _ _ _ _ _ Tryz.underlying3)
theorem eqV (w : World) {x y : Vd} (hx : x.key.length = 16) (hy : y.key.length = 16) :
    Sem.run Tryz.prog (Op.equalIn 10000 41 (.agg x.cells.toArray) (.agg y.cells.toArray)) w = .ok (decide (x.key = y.key) && (x.p == y.p)) w := eqV_at w 9997 hx hy

/-- Are two rows the same? -/
def sameS (a b : List Vd) : Bool := decide (a.map Vd.key = b.map Vd.key) && decide (a.map Vd.p = b.map Vd.p)
theorem sameS_len {a b : List Vd} (h : a.length ≠ b.length) : sameS a b = false := by
  have h1 : ¬ (a.map Vd.key = b.map Vd.key) := fun e => h (by simpa using congrArg List.length e)
  simp [sameS, h1]
theorem sameS_all {a b : List Vd} (hn : a.length = b.length) (h : ∀ j (h1 : j < a.length) (h2 : j < b.length), a[j].key = b[j].key ∧ a[j].p = b[j].p) : sameS a b = true := by
  have h1 : a.map Vd.key = b.map Vd.key := List.ext_getElem (by simp [hn]) fun j g1 g2 => by simpa using (h j (by simpa using g1) (by simpa using g2)).1
  have h2 : a.map Vd.p = b.map Vd.p := List.ext_getElem (by simp [hn]) fun j g1 g2 => by simpa using (h j (by simpa using g1) (by simpa using g2)).2
  simp [sameS, h1, h2]
theorem sameS_not {a b : List Vd} {j : Nat} (h1 : j < a.length) (h2 : j < b.length) (h : ¬ (a[j].key = b[j].key ∧ a[j].p = b[j].p)) : sameS a b = false := by
  cases hs : sameS a b with
  | false => rfl
  | true =>
    exfalso
    simp only [sameS, Bool.and_eq_true, decide_eq_true_eq] at hs
    refine h ⟨?_, ?_⟩
    · have := congrArg (fun l => l[j]?) hs.1
      simpa [List.getElem?_eq_getElem h1, List.getElem?_eq_getElem h2] using this
    · have := congrArg (fun l => l[j]?) hs.2
      simpa [List.getElem?_eq_getElem h1, List.getElem?_eq_getElem h2] using this

end Go.Proofs.YtmoebkdbnldbdaaGreatDoor
/-
  The document's powers: Right, Total.
-/

namespace Go.Proofs.YtmoebkdbnldbdaaGreatDoor
open Go.RowKit

theorem findS_le {key : List Int} : ∀ {V : List Vd} {m : Nat} (h : m < V.length), V[m].key = key → 0 ≤ findS key V ∧ findS key V ≤ (m : Int)
  | x :: V, 0, _, e => by
    have e' : x.key = key := e
    rw [findS, if_pos e']; simp
  | x :: V, m + 1, h, e => by
    rw [findS]
    by_cases hx : x.key = key
    · rw [if_pos hx]; omega
    · rw [if_neg hx]
      have ih := findS_le (V := V) (m := m) (by simpa using h) e
      rw [if_neg (by omega)]; omega

end Go.Proofs.YtmoebkdbnldbdaaGreatDoor
/-
  The document's powers: Total, Sum, Enough, Few.
-/

namespace Go.Proofs.YtmoebkdbnldbdaaGreatDoor
open Go.RowKit

/-- The numbers of the errors that Sum answers. -/
def codeN : Nat → Int
  | 0 => 0
  | 1 => 11
  | 2 => 1
  | _ => 17

theorem right_sumW {V : List Vd} (hr : rightS V = true) : sumW (powersOf V) = (powersOf V).sum :=
  sumW_sum _ (right_powers hr).2.2 (by have := (right_powers hr).1; simp [powersOf]; omega)
theorem code_right {V : List Vd} {who : List Int} (h : sumCode V who = 0) : rightS V = true := by
  cases h1 : rightS V with
  | true => rfl
  | false => simp [sumCode, h1] at h
theorem codeN_zero {k : Nat} : codeN k = 0 ↔ k = 0 := by
  match k with
  | 0 => simp [codeN]
  | 1 => simp [codeN]
  | 2 => simp [codeN]
  | k + 3 => simp [codeN]

end Go.Proofs.YtmoebkdbnldbdaaGreatDoor
