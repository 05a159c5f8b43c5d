/-
  Pool: Add.
-/
import Derived.Test.YtnhjokcjdjfijaaDoorPlD
namespace Go.Proofs.YtnhjokcjdjfijaaDoor
open Go.RowKit

def addOk (E : Nat → Addr) (S : Nat → Prop) (p : Nat) (L : List (List UInt8)) (x : List UInt8) (w : World) (e : Ending) (w' : World) : Prop :=
  e = .returned (evOf E (addE L x)) ∧ PoolIs w' (upTo S w.heap.size w'.heap.size) p (addL L x) ∧ Kept S w w'

set_option maxRecDepth 100000 in
set_option maxHeartbeats 2000000 in
theorem pool_add (w : World) (S : Nat → Prop) (p : Nat) (L : List (List UInt8)) (B0 : Nat) (E : Nat → Addr) (h : PoolIs w S p L) (hL : L.length ≤ 1000) (A0 : Option Addr) (d : Nat) (x : List UInt8) (hx : BytesAt w A0 x) (he : ErrVars [3, 7, 16] w B0 E) (hSB : ∀ k, S k → B0 ≤ k) :
    Calls Tryd.prog 12 #[.pointer (some ⟨p, 0, none⟩), .slice A0 x.length d] w (addOk E S p L x w) := by
  have HP := Lib.hid h
  have HX := Lib.hid hx
  have HE := Lib.hid he
  have HS := Lib.hid hSB
  have HA := Lib.hid (pool_has w S p L h (by omega) A0 d x hx)
  clear h hx he hSB
  by_cases h1 : x.length < 1 ∨ 16 < x.length
  · have hE : addE L x = 4 := by rw [addE, if_pos h1]
    have HEE := Lib.hid hE
    have c3 := (HE.out.var 3 (by simp)).1
    have c3' : w.cell? ⟨3, 0, none⟩ = some (errV (E 3)) := c3
    clear c3 hE
    have fin : addOk E S p L x w (.returned (errV (E 3))) w := ⟨by rw [HEE.out]; rfl, by rw [addL, if_neg (by rw [HEE.out]; simp)]; exact HP.out.mono (fun _ _ h => .inl h), Kept.refl _ _⟩
    have Fin := Lib.hid fin
    clear fin
    by_cases h2 : x.length < 1
    · have d1 : decide ((x.length : Int) < 1) = true := by simp; omega
      clear h1 h2
      go_enter Tryd.func12, Tryd.ntmps12
      go_wp2_with fail
      go_ret
      exact Fin.out
    · have d1 : decide ((x.length : Int) < 1) = false := by simp; omega
      have d2 : decide ((16 : Int) < (x.length : Int)) = true := by simp; omega
      clear h1 h2
      go_enter Tryd.func12, Tryd.ntmps12
      go_wp2_with fail
      go_ret
      exact Fin.out
  · have d1 : decide ((x.length : Int) < 1) = false := by simp; omega
    have d2 : decide ((16 : Int) < (x.length : Int)) = false := by simp; omega
    have hx16 : x.length ≤ 16 := by omega
    have H1 := Lib.hid h1
    obtain ⟨r, hr⟩ : ∃ r, r = isIn L x := ⟨_, rfl⟩
    rw [← hr] at HA
    have HR := Lib.hid hr
    clear h1 hr
    go_enter Tryd.func12, Tryd.ntmps12
    go_wp2_with fail
    refine HA.out.mono ?_
    rintro e w1 ⟨rfl, k1⟩
    have hP1 := HP.out.kept (Kept.of_grown (F := fun _ => False) k1 fun _ e => by cases e) (fun _ h => h.elim)
    have HP1 := Lib.hid hP1
    have HK1 := Lib.hid k1
    have hE1 := HE.out.grown k1 (fun _ e => by cases e)
    have HE1 := Lib.hid hE1
    clear hP1 k1 hE1
    cases r with
    | true =>
      have c3 := (HE1.out.var 16 (by simp)).1
      have c3' : w1.cell? ⟨16, 0, none⟩ = some (errV (E 16)) := c3
      clear c3
      go_wp2_with fail
      go_ret
      have hE : addE L x = 17 := by rw [addE, if_neg H1.out, if_pos HR.out.symm]
      exact ⟨by rw [hE]; rfl, by rw [addL, if_neg (by rw [hE]; simp)]; exact HP1.out.mono (fun _ _ h => .inl h), Kept.of_grown HK1.out fun _ e => by cases e⟩
    | false =>
      obtain ⟨hSp, A, n, c, zs, hb, hrow, hs⟩ := id HP1.out
      have hl : n = L.length := by rw [← hs, List.length_map, hrow.length]
      have c0 := hb.cell 0
      simp only [List.getElem?_toArray, List.getElem?_cons_zero] at c0
      by_cases h16 : 16 ≤ L.length
      · have d3 : decide ((16 : Int) ≤ (n : Int)) = true := by simp; omega
        have c3 := (HE1.out.var 7 (by simp)).1
        have c3' : w1.cell? ⟨7, 0, none⟩ = some (errV (E 7)) := c3
        have HF := Lib.hid h16
        clear c3 hb hrow hs hl h16
        go_wp2_with fail
        go_ret
        have hE : addE L x = 8 := by rw [addE, if_neg H1.out, if_neg (by rw [← HR.out]; simp), if_pos HF.out]
        exact ⟨by rw [hE]; rfl, by rw [addL, if_neg (by rw [hE]; simp)]; exact HP1.out.mono (fun _ _ h => .inl h), Kept.of_grown HK1.out fun _ e => by cases e⟩
      · have d3 : decide ((16 : Int) ≤ (n : Int)) = false := by simp; omega
        have hn16 : n ≤ 16 := by omega
        have hE : addE L x = 0 := by rw [addE, if_neg H1.out, if_neg (by rw [← HR.out]; simp), if_neg h16]
        have HB := Lib.hid (And.intro hb (And.intro hrow (And.intro hs (And.intro hSp (And.intro hl hE)))))
        obtain ⟨i0, hi, hz0, hz1, hz2⟩ := info_parts lst_info
        have hfacts : ∀ W, w1.grownBy W none → W.cell? ⟨p, 0, none⟩ = some (.slice A n c) ∧ W.frozen? ⟨p, 0, none⟩ = false ∧ W.ownsRow 0 30 1 (.slice A n c) n (zs.map (·.1)) := fun W hW =>
          ⟨hW.cell c0 (by simp), (hb.grown hW (by simp)).frozen 0, own_kept hrow.1 (Kept.of_grown (F := fun _ => False) hW fun _ e => by cases e) (fun _ _ h => h)⟩
        have HF := Lib.hid hfacts
        have hrl : ∀ k, (Value.slice A n c).ownBlock = some k → k ≠ p := fun k hk => by
          rcases A with _ | ad
          · simp [Value.ownBlock] at hk
          · have e : ad.block = k := by simpa [Value.ownBlock] using hk
            subst e; exact (hrow.2.1 ad rfl).2
        have hafter : ∀ W W3, w1.grownBy W none → W.grownBy W3 (Value.slice A n c).ownBlock → W3.cell? ⟨p, 0, none⟩ = some (.slice A n c) ∧ W3.frozen? ⟨p, 0, none⟩ = false := fun W W3 hW h3 => by
          have hb3 : Blk W3 p 58 #[.slice A n c] := (hb.grown hW (by simp)).kept (Kept.of_grown (F := fun j => (Value.slice A n c).ownBlock = some j) h3 (fun _ e => e)) (fun h => hrl p h rfl)
          exact ⟨hb3.cell 0, hb3.frozen 0⟩
        have HG := Lib.hid hafter
        have HC := Lib.hid (fun W (hW : w1.grownBy W none) => bclone_is W A0 x.length d x rfl ((HX.out.grown HK1.out (by simp)).grown hW (by simp)) (by omega))
        clear hb hrow hs hl hE h16 hfacts hrl hafter hSp
        go_wp2_with fail
        go_region_law (first
          | (refine step_push_one _ (by rfl) _ _ _ (by rfl) 0 30 i0 _ 24 Tryd.underlying31 hi hz0 hz1 hz2 rfl _ n _ (by rfl) (HF.out _ (grown_trans k5 (World.grownBy_alloc w5 _ none))).2.2 ⟨w5.heap.size, 0, none⟩ 1 (.slice B5 x.length d5) (by rfl) (Blk.cell (Blk.new _ _ _) 0) rfl (by omega) (by omega) (Nat.zero_le _) ?_; intro A' c' w6 hown6 k6 hat6; have q6 := (HG.out _ w6 (grown_trans k5 (World.grownBy_alloc w5 _ none)) k6).1; have q7 := (HG.out _ w6 (grown_trans k5 (World.grownBy_alloc w5 _ none)) k6).2)
          | ((try go_simp); refine (HC.out _ (grown_drew (World.grownBy.refl w1 none))).mono ?_; rintro en w5 ⟨B5, d5, rfl, hown5, k50⟩; have k5 : w1.grownBy w5 none := grown_trans (grown_drew (World.grownBy.refl w1 none)) k50; have q4 := (HF.out w5 k5).1; have q5 := (HF.out (w5.alloc (.cells #[.slice B5 x.length d5] 30)) (grown_trans k5 (World.grownBy_alloc w5 _ none))).1))
        all_goals
          obtain ⟨hb, hrow, hs, hSp, hl, hE⟩ := HB.out
          have fin := push_step hSp hb hrow hs (World.grownBy.refl w1 none) hown5 k5 hown6 rfl k6 hat6
          have Fin := Lib.hid fin
          have HE2 := Lib.hid (And.intro hE hl)
          clear fin hb hrow hs hSp hl hE q4 q5 q6 q7 hown5 k50 k5 hown6 k6 hat6
          go_wp2_with fail
          go_ret
          have hk := (Kept.of_grown (F := S) HK1.out (fun _ e => by cases e)).next Fin.out.2 (fun _ _ h => h)
          refine ⟨by rw [HE2.out.1]; rfl, ?_, hk⟩
          rw [addL, if_pos HE2.out.1]
          exact Fin.out.1.mono (fun k _ h => h.imp id (fun h => ⟨Nat.le_trans HK1.out.size h.1, h.2⟩))
end Go.Proofs.YtnhjokcjdjfijaaDoor
