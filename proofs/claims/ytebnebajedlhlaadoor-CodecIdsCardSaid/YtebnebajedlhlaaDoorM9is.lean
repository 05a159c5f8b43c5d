/-
  Several texts in one: Sm, CdP.
-/
import Derived.Deep.MidRow
import Derived.Test.YtebnebajedlhlaaDoorM9ir
import Derived.Test.YtebnebajedlhlaaDoorM9ik
/-
  quorateref03.Same of rows of any length.
-/
namespace Go.Proofs.YtebnebajedlhlaaDoor
open Go.RowKit

theorem digs_len (w : World) (A1 A2 : Option Addr) (n1 n2 c1 c2 : Nat) (hn : n1 ≠ n2) :
    Calls Tryd.prog 63 #[.slice A1 n1 c1, .slice A2 n2 c2] w fun e w' => e = .returned (.bool false) ∧ w.grownBy w' none := by
  have hne : ¬ ((n1 : Int) = (n2 : Int)) := by omega
  go_enter Tryd.func63, Tryd.ntmps63
  go_wp2_with fail
  go_ret
  exact ⟨rfl, World.grownBy.refl w none⟩
theorem digs_none (w : World) (A1 A2 : Option Addr) (c1 c2 : Nat) :
    Calls Tryd.prog 63 #[.slice A1 0 c1, .slice A2 0 c2] w fun e w' => e = .returned (.bool true) ∧ w.grownBy w' none := by
  go_enter Tryd.func63, Tryd.ntmps63
  go_wp2_with fail
  refine wp_loop_rounds 1 ?_
  rw [rounds_succ]
  go_wp2_with fail
  go_ret
  exact ⟨rfl, World.grownBy.refl w none⟩
/-- As far as k they are the same. -/
def SameTo (k : Nat) (ps qs : List (List Int)) : Prop := ∀ j, j < k → ps.getD j zeroC = qs.getD j zeroC
theorem sameTo_all {ps qs : List (List Int)} {n : Nat} (h1 : ps.length = n) (h2 : qs.length = n) (h : SameTo n ps qs) : ps = qs := by
  refine List.ext_getElem (by omega) fun i i1 i2 => ?_
  have := h i (by omega)
  rw [List.getD, List.getD, List.getElem?_eq_getElem i1, List.getElem?_eq_getElem i2] at this
  exact this
set_option maxRecDepth 100000 in
set_option maxHeartbeats 4000000 in
theorem digs_same (w : World) (b1 o1 c1 b2 o2 c2 n : Nat) (ps qs : List (List Int)) (hl : ps.length = n) (hl2 : qs.length = n) (hn : n ≤ 1000) (hps : ∀ p ∈ ps, isDig p) (hqs : ∀ p ∈ qs, isDig p) (D1 : DigsAt w b1 o1 ps) (D2 : DigsAt w b2 o2 qs) (r : Bool) (hr : r = decide (ps = qs)) :
    Calls Tryd.prog 63 #[.slice (some ⟨b1, o1, none⟩) n c1, .slice (some ⟨b2, o2, none⟩) n c2] w fun e w' => e = .returned (.bool r) ∧ w.grownBy w' none := by
  have HN := Lib.hid (And.intro hl (And.intro hps (And.intro D1 (And.intro D2 (And.intro hl2 (And.intro hqs (And.intro hr hn)))))))
  clear hl hps D1 D2 hl2 hqs hr hn
  go_enter Tryd.func63, Tryd.ntmps63
  go_wp2_with fail
  go_loopw [13] (fun i wr => ∃ k : Nat, k ≤ n ∧ i = .int .i64 (k : Int) ∧ SameTo k ps qs ∧ w.grownBy wr none) (fun i _ => n - (intOf i).toNat)
  case atStart => exact ⟨0, by omega, rfl, fun j hj => absurd hj (by omega), World.grownBy.refl w none⟩
  case round =>
    obtain ⟨k, hk, hi, hST, hK⟩ := hrel
    obtain ⟨I, hI⟩ : ∃ I : Int, I = (k : Int) := ⟨_, rfl⟩
    rw [← hI] at hi
    subst hi
    by_cases hlt : k < n
    · have d1 : decide (I < (n : Int)) = true := by simp; omega
      have hI68 : 0 ≤ I ∧ I < (n : Int) := by omega
      have hI1 : I ≤ 1000 := by have := HN.out.2.2.2.2.2.2.2; omega
      have hkI : I.toNat = k := by omega
      have hpd := getD_dig HN.out.2.1 k
      have hqd := getD_dig HN.out.2.2.2.2.2.1 k
      obtain ⟨p, hp⟩ : ∃ p, p = ps.getD k zeroC := ⟨_, rfl⟩
      obtain ⟨q, hq⟩ : ∃ q, q = qs.getD k zeroC := ⟨_, rfl⟩
      rw [← hp] at hpd
      rw [← hq] at hqd
      obtain ⟨es, hes⟩ : ∃ es, es = arrV .u8 p := ⟨_, rfl⟩
      obtain ⟨fs, hfs⟩ : ∃ fs, fs = arrV .u8 q := ⟨_, rfl⟩
      have hu := Tryd.underlying23
      have he16 : es.size = 16 := by rw [hes, arr_size]; exact hpd.1
      have hf16 : fs.size = 16 := by rw [hfs, arr_size]; exact hqd.1
      have v1 : ∀ z : Gr wr, Sem.run Tryd.prog (Instr.loadAt 23 (.pointer (some ⟨b1, o1 + I.toNat * 16, none⟩))) z.1 = .ok (.agg es) z.1 := fun z => by
        have h1 := run_loadAt_mid (P := Tryd.prog) z.1 b1 (o1 + I.toNat * 16) 23 es.toList _ (by
          rw [hkI, hes, hp]
          exact range_grown (HN.out.2.2.1 k (by rw [HN.out.1]; exact hlt)) (grown_trans hK z.2)) hu rfl (by rw [Array.length_toList, he16]; exact info16)
        rwa [Array.toArray_toList] at h1
      have v2 : ∀ z : Gr wr, Sem.run Tryd.prog (Instr.loadAt 23 (.pointer (some ⟨b2, o2 + I.toNat * 16, none⟩))) z.1 = .ok (.agg fs) z.1 := fun z => by
        have h1 := run_loadAt_mid (P := Tryd.prog) z.1 b2 (o2 + I.toNat * 16) 23 fs.toList _ (by
          rw [hkI, hfs, hq]
          exact range_grown (HN.out.2.2.2.1 k (by rw [HN.out.2.2.2.2.1]; exact hlt)) (grown_trans hK z.2)) hu rfl (by rw [Array.length_toList, hf16]; exact info16)
        rwa [Array.toArray_toList] at h1
      have V1 := Lib.hid v1
      have V2 := Lib.hid v2
      have hqe : ∀ V, Sem.run Tryd.prog (Op.equalIn 10000 23 (.agg es) (.agg fs)) V = .ok (decide (p = q)) V := fun V => by
        rw [hes, hfs]; exact eqD V p q hpd.1 hqd.1
      by_cases hpq : p = q
      · have hqr : ∀ V, Sem.run Tryd.prog (Op.equalIn 10000 23 (.agg es) (.agg fs)) V = .ok true V := fun V => by rw [hqe V, decide_eq_true hpq]
        have hnx : SameTo (k + 1) ps qs := fun j hj => by
          by_cases e : j = k
          · rw [e, ← hp, ← hq]; exact hpq
          · exact hST j (by omega)
        have HK := Lib.hid (And.intro hI (And.intro hlt (And.intro hK hnx)))
        clear hI hlt hkI hp hq hpd hqd hes hfs he16 hf16 hu hK hk v1 v2 hqe hpq hST hnx
        go_wp2_with fail
        refine wp_region_grown (by kernel_rfl) (by kernel_rfl) ?_
        repeat (first
          | (refine wpQuiet_load_row 23 _ ⟨b1, o1 + I.toNat * 16, none⟩ (.agg es) (by rfl) rfl rfl (by rintro _ ⟨z, rfl⟩; exact V1.out z) ?_; simp only [Act.put, List.setIfInBounds_toArray, List.set_cons_zero, List.set_cons_succ])
          | (refine wpQuiet_load_row 23 _ ⟨b2, o2 + I.toNat * 16, none⟩ (.agg fs) (by rfl) rfl rfl (by rintro _ ⟨z, rfl⟩; exact V2.out z) ?_; simp only [Act.put, List.setIfInBounds_toArray, List.set_cons_zero, List.set_cons_succ])
          | go_big_quiet_step (fail))
        refine wpQuiet_nil ?_
        rintro w7 ⟨⟨_, k7⟩, rfl⟩
        have HK7 := Lib.hid k7
        clear k7
        go_wp2_with fail
        go_roundw
        case rel =>
          obtain ⟨hI, hlt, hK, hnx⟩ := HK.out
          exact ⟨k + 1, by omega, by rw [hI]; rfl, hnx, grown_trans hK HK7.out⟩
        case measure => obtain ⟨hI, hlt, _⟩ := HK.out; simp only [intOf]; omega
      · have hqr : ∀ V, Sem.run Tryd.prog (Op.equalIn 10000 23 (.agg es) (.agg fs)) V = .ok false V := fun V => by rw [hqe V, decide_eq_false hpq]
        have hrf : r = false := by
          rw [HN.out.2.2.2.2.2.2.1]
          refine decide_eq_false fun e => hpq ?_
          rw [hp, hq, e]
        have HK := Lib.hid (And.intro hrf hK)
        clear hI hlt hkI hp hq hpd hqd hes hfs he16 hf16 hu hK hk v1 v2 hqe hpq hST hrf
        go_wp2_with fail
        refine wp_region_grown (by kernel_rfl) (by kernel_rfl) ?_
        repeat (first
          | (refine wpQuiet_load_row 23 _ ⟨b1, o1 + I.toNat * 16, none⟩ (.agg es) (by rfl) rfl rfl (by rintro _ ⟨z, rfl⟩; exact V1.out z) ?_; simp only [Act.put, List.setIfInBounds_toArray, List.set_cons_zero, List.set_cons_succ])
          | (refine wpQuiet_load_row 23 _ ⟨b2, o2 + I.toNat * 16, none⟩ (.agg fs) (by rfl) rfl rfl (by rintro _ ⟨z, rfl⟩; exact V2.out z) ?_; simp only [Act.put, List.setIfInBounds_toArray, List.set_cons_zero, List.set_cons_succ])
          | go_big_quiet_step (fail))
        refine wpQuiet_nil ?_
        rintro w7 ⟨⟨_, k7⟩, rfl⟩
        have HK7 := Lib.hid k7
        clear k7
        go_wp2_with fail
        go_ret
        exact ⟨by rw [HK.out.1]; rfl, grown_trans HK.out.2 HK7.out⟩
    · obtain rfl : k = n := by omega
      have d1 : decide (I < (k : Int)) = false := by simp; omega
      have hrt : r = true := by
        rw [HN.out.2.2.2.2.2.2.1]
        exact decide_eq_true (sameTo_all HN.out.1 HN.out.2.2.2.2.1 hST)
      have HK := Lib.hid (And.intro hrt hK)
      clear hK hI hlt hk hST hrt
      go_wp2_with fail
      go_ret
      exact ⟨by rw [HK.out.1]; rfl, HK.out.2⟩
end Go.Proofs.YtebnebajedlhlaaDoor
/-
  Messages as bytes: the document's forms as functions of what is written so far (the first error's number, the bytes).
-/

namespace Go.Proofs.YtebnebajedlhlaaDoor
open Go.RowKit

abbrev WSt := Nat × List UInt8
/-- The first error stays. -/
def sFail (k : Nat) (s : WSt) : WSt := if s.1 = 0 then (k, s.2) else s
def sFix (x : List UInt8) (s : WSt) : WSt := if s.1 = 0 then (0, s.2 ++ x) else s
def sNum (n w : Int) (s : WSt) : WSt := if badNum n w = true then sFail 1 s else sFix (be w.toNat n.toNat) s
def sBytes (x : List UInt8) (most : Int) (s : WSt) : WSt := if most < (x.length : Int) ∨ 65535 < x.length then sFail 1 s else sFix x (sNum (x.length : Int) 2 s)
def sPut (n : Nat) (most : Int) (f : WSt → WSt) (s : WSt) : WSt := if most < (n : Int) ∨ 255 < n then sFail 1 s else f (sNum (n : Int) 1 s)
def sAll {α : Type} (f : α → WSt → WSt) (L : List α) (s : WSt) : WSt := L.foldl (fun s x => f x s) s
theorem sAll_nil {α : Type} (f : α → WSt → WSt) (s : WSt) : sAll f [] s = s := rfl
theorem sAll_snoc {α : Type} (f : α → WSt → WSt) (L : List α) (x : α) (s : WSt) : sAll f (L ++ [x]) s = f x (sAll f L s) := by simp [sAll, List.foldl_append]

/-- It writes at most so many bytes. -/
def Adds (c : Nat) (f : WSt → WSt) : Prop := ∀ s, (f s).2.length ≤ s.2.length + c
theorem Adds.mono {c d : Nat} {f : WSt → WSt} (h : Adds c f) (hcd : c ≤ d) : Adds d f := fun s => Nat.le_trans (h s) (by omega)
theorem Adds.comp {c d : Nat} {f g : WSt → WSt} (h : Adds c f) (k : Adds d g) : Adds (c + d) (fun s => g (f s)) := fun s => by
  have h1 := h s
  have h2 := k (f s)
  show (g (f s)).2.length ≤ _
  omega
theorem adds_fail (k c : Nat) : Adds c (sFail k) := fun s => by unfold sFail; split <;> simp <;> omega
theorem adds_fix (x : List UInt8) : Adds x.length (sFix x) := fun s => by unfold sFix; split <;> simp
theorem adds_num (n : Int) (w : Nat) : Adds w (sNum n (w : Int)) := fun s => by
  unfold sNum
  split
  · exact adds_fail 1 w s
  · exact Nat.le_trans (adds_fix _ s) (by rw [be_length]; simp)
theorem adds_all {α : Type} {f : α → WSt → WSt} {c : Nat} (L : List α) (h : ∀ x ∈ L, Adds c (f x)) : Adds (L.length * c) (sAll f L) := fun s => by
  induction L generalizing s with
  | nil => simp [sAll]
  | cons x r ih =>
    have h1 := ih (fun y hy => h y (List.mem_cons_of_mem _ hy)) (f x s)
    have h2 := h x (List.mem_cons_self ..) s
    have : sAll f (x :: r) s = sAll f r (f x s) := rfl
    rw [this, List.length_cons, Nat.succ_mul]
    omega
theorem adds_put {n : Nat} {most : Int} {c m : Nat} {f : WSt → WSt} (hm : most = (m : Int)) (h : n ≤ m → Adds (n * c) f) : Adds (1 + m * c) (sPut n most f) := fun s => by
  subst hm
  unfold sPut
  split
  · exact adds_fail 1 _ s
  · have hn : n ≤ m := by omega
    have h1 := adds_num (n : Int) 1 s
    have h2 := h hn (sNum (n : Int) 1 s)
    have h3 : n * c ≤ m * c := Nat.mul_le_mul_right c hn
    have h4 : sNum (n : Int) 1 s = sNum (n : Int) ((1 : Nat) : Int) s := rfl
    rw [h4] at h2 ⊢
    omega
theorem adds_bytes (x : List UInt8) (m : Nat) : Adds (2 + m) (sBytes x (m : Int)) := fun s => by
  unfold sBytes
  split
  · exact adds_fail 1 _ s
  · have h1 := adds_num (x.length : Int) 2 s
    have h2 := adds_fix x (sNum (x.length : Int) ((2 : Nat) : Int) s)
    have h4 : sNum (x.length : Int) 2 s = sNum (x.length : Int) ((2 : Nat) : Int) s := rfl
    rw [h4]
    omega

/-- A digest's bytes. -/
def dgB (d : List Int) : List UInt8 := d.map fun z => UInt8.ofNat z.toNat
theorem dgB_length (d : List Int) : (dgB d).length = d.length := by simp [dgB]
def sDig (d : List Int) : WSt → WSt := sFix (dgB d)
def sSig (lf : Int) (cs ps : List (List Int)) (s : WSt) : WSt := sPut ps.length 5 (sAll sDig ps) (sPut cs.length 68 (sAll sDig cs) (sNum lf 1 s))
theorem adds_dig {d : List Int} (h : d.length = 16) : Adds 16 (sDig d) := (adds_fix _).mono (by rw [dgB_length, h]; exact Nat.le_refl _)
theorem adds_digs {ds : List (List Int)} (h : ∀ d ∈ ds, d.length = 16) : Adds (ds.length * 16) (sAll sDig ds) := adds_all ds fun d hd => adds_dig (h d hd)
theorem adds_sig {lf : Int} {cs ps : List (List Int)} (hc : ∀ d ∈ cs, d.length = 16) (hp : ∀ d ∈ ps, d.length = 16) : Adds 1171 (sSig lf cs ps) :=
  (((adds_num lf 1).comp (adds_put (m := 68) rfl fun _ => adds_digs hc)).comp (adds_put (m := 5) rfl fun _ => adds_digs hp)).mono (by omega)
end Go.Proofs.YtebnebajedlhlaaDoor
