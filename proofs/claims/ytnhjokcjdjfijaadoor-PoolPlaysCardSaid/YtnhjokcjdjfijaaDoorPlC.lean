/-
  Pool: slices.DeleteFunc on a row that is owned.
-/
import Derived.Test.YtnhjokcjdjfijaaDoorPlB
namespace Go.Proofs.YtnhjokcjdjfijaaDoor
open Go.RowKit

theorem firstI_cases (p : List UInt8 → Bool) : ∀ (k : Nat) (ys : List (List UInt8)), (firstI p k ys = -1 ∧ ∀ y ∈ ys, p y = false) ∨ ∃ j, ∃ hj : j < ys.length, firstI p k ys = ((k + j : Nat) : Int) ∧ p ys[j] = true ∧ ∀ i (hi : i < j), p (ys[i]'(by omega)) = false
  | _, [] => .inl ⟨rfl, fun y hy => by cases hy⟩
  | k, y :: ys => by
    by_cases h : p y = true
    · exact .inr ⟨0, by simp, by rw [firstI, if_pos h]; rfl, h, fun i hi => absurd hi (by omega)⟩
    · have h' : p y = false := by simpa using h
      rcases firstI_cases p (k + 1) ys with ⟨h1, h2⟩ | ⟨j, hj, h1, h2, h3⟩
      · refine .inl ⟨by rw [firstI, if_neg h, h1], fun z hz => ?_⟩
        rcases List.mem_cons.1 hz with rfl | hz
        · exact h'
        · exact h2 z hz
      · refine .inr ⟨j + 1, by simpa using hj, by rw [firstI, if_neg h, h1]; congr 1; omega, by simpa using h2, fun i hi => ?_⟩
        rcases i with _ | i
        · exact h'
        · simpa using h3 i (by omega)

/-- What is left of the first J. -/
def filtJ (p : List UInt8 → Bool) (zs : List (Value × List UInt8)) (J : Nat) : List (Value × List UInt8) := (zs.take J).filter (fun z => !p z.2)
theorem filtJ_succ {p : List UInt8 → Bool} {zs : List (Value × List UInt8)} {J : Nat} {z : Value × List UInt8} (h : zs[J]? = some z) : filtJ p zs (J + 1) = if p z.2 then filtJ p zs J else filtJ p zs J ++ [z] := by
  obtain ⟨hj, rfl⟩ := List.getElem?_eq_some_iff.1 h
  rw [filtJ, List.take_succ_eq_append_getElem hj, List.filter_append, filtJ]
  cases hp : p zs[J].2 <;> simp [hp]
theorem filtJ_le (p : List UInt8 → Bool) (zs : List (Value × List UInt8)) (J : Nat) : (filtJ p zs J).length ≤ J := Nat.le_trans (List.length_filter_le _ _) (List.length_take_le _ _)
theorem filtJ_all {p : List UInt8 → Bool} {zs : List (Value × List UInt8)} {J : Nat} (hJ : J ≤ zs.length) (h : ∀ i (hi : i < J), p (zs[i]'(by omega)).2 = false) : filtJ p zs J = zs.take J := by
  rw [filtJ, List.filter_eq_self]
  intro z hz
  obtain ⟨i, hi, rfl⟩ := List.getElem_of_mem hz
  simp only [List.length_take] at hi
  rw [List.getElem_take, h i (by omega)]; rfl

theorem own_clear {base : Nat} {e : TypeId} {n g c : Nat} {cells : List Value} : ∀ (vs : List Value) (o : Nat) (w : World), w.ownsRow base e 1 (.slice (some ⟨g, 0, none⟩) n c) n cells → n ≤ o → (w.setCells g o vs).ownsRow base e 1 (.slice (some ⟨g, 0, none⟩) n c) n cells
  | [], _, _, h, _ => h
  | v :: vs, o, w, h, ho => own_clear vs (o + 1) _ (own_beyond h o v ho) (by omega)
theorem kept_clear {g : Nat} : ∀ (vs : List Value) (o : Nat) (w : World), Kept (fun j => j = g) w (w.setCells g o vs)
  | [], _, w => Kept.refl _ w
  | v :: vs, o, w => ((Kept.refl (fun j => j = g) w).set (p := ⟨g, o, none⟩) (.inl rfl) v).next (kept_clear vs (o + 1) _) (fun _ _ h => h)
theorem zero_lst : ∀ w, (zeroValue 30).run Tryd.prog w = .ok (.slice none 0 0) w := fun w => by kernel_rfl

/-- The row when the first J are looked at. -/
def DelAt (w : World) (g n c : Nat) (p : List UInt8 → Bool) (zs : List (Value × List UInt8)) (J : Nat) (wr : World) : Prop :=
  ∃ cells : List Value, wr.ownsRow 0 30 1 (.slice (some ⟨g, 0, none⟩) n c) n cells ∧ cells.take (filtJ p zs J).length = (filtJ p zs J).map (·.1) ∧ cells.drop J = (zs.drop J).map (·.1) ∧ Kept (fun j => j = g) w wr
theorem del_skip {w wr w2 : World} {g n c J : Nat} {p : List UInt8 → Bool} {zs : List (Value × List UInt8)} {z : Value × List UInt8} (h : DelAt w g n c p zs J wr) (hz : zs[J]? = some z) (hp : p z.2 = true) (hg : wr.grownBy w2 none) : DelAt w g n c p zs (J + 1) w2 := by
  obtain ⟨cells, h1, h2, h3, h4⟩ := h
  have K := Kept.of_grown (F := fun _ => False) hg fun _ e => by cases e
  refine ⟨cells, own_kept h1 K (fun _ _ h => h), ?_, ?_, h4.next K (fun _ _ h => h.elim)⟩
  · rw [filtJ_succ hz, if_pos hp]; exact h2
  · have := congrArg (List.drop 1) h3
    rw [List.drop_drop, ← List.map_drop, List.drop_drop] at this
    exact this
theorem del_keep {w wr w2 : World} {g n c J : Nat} {p : List UInt8 → Bool} {zs : List (Value × List UInt8)} {z : Value × List UInt8} (h : DelAt w g n c p zs J wr) (hJ : J < n) (hz : zs[J]? = some z) (hp : p z.2 = false) (hf : (filtJ p zs J).length < J) (hg : wr.grownBy w2 none) :
    DelAt w g n c p zs (J + 1) (w2.setCell ⟨g, (filtJ p zs J).length, none⟩ z.1) := by
  obtain ⟨cells, h1, h2, h3, h4⟩ := h
  have K := Kept.of_grown (F := fun _ => False) hg fun _ e => by cases e
  have hl : cells.length = n := by have := h1.1; simpa using this
  have KS : Kept (fun j => j = g) w2 (w2.setCell ⟨g, (filtJ p zs J).length, none⟩ z.1) := (Kept.refl (fun j => j = g) w2).set (p := ⟨g, (filtJ p zs J).length, none⟩) (.inl rfl) _
  refine ⟨cells.set (filtJ p zs J).length z.1, own_put (own_kept h1 K (fun _ _ h => h)) _ _ (by omega), ?_, ?_, (h4.next K (fun _ _ h => h.elim)).next KS (fun _ _ h => h)⟩
  · rw [filtJ_succ hz, hp]
    simp only [Bool.false_eq_true, if_false, List.length_append, List.length_singleton, List.map_append, List.map_cons, List.map_nil]
    rw [List.take_succ_eq_append_getElem (by rw [List.length_set]; omega), List.take_set, List.set_eq_of_length_le (by rw [List.length_take]; omega), h2]
    simp
  · have := congrArg (List.drop 1) h3
    rw [List.drop_drop, ← List.map_drop, List.drop_drop] at this
    rw [List.drop_set_of_lt (by omega)]
    exact this

set_option maxRecDepth 100000 in
set_option maxHeartbeats 2000000 in
theorem delete_is (w : World) (S : Nat → Prop) (g n c : Nat) (zs : List (Value × List UInt8)) (hrow : RowS w S (some ⟨g, 0, none⟩) n c zs) (hnb : n ≤ 100000) (fn : FuncId) (cap : Value) (p : List UInt8 → Bool)
    (hE : ∀ (args : Array Value) (w : World), (callFunc fn args).run Tryd.prog w = .ok (.enter fn args) w)
    (hP : ∀ w1 B d x, Kept (fun j => j = g) w w1 → BytesAt w1 B x → Calls Tryd.prog fn #[.slice B x.length d, cap] w1 fun e w2 => e = .returned (.bool (p x)) ∧ w1.grownBy w2 none) :
    Calls Tryd.prog 28 #[.slice (some ⟨g, 0, none⟩) n c, .func (.func fn) #[] #[cap]] w fun e w' => e = .returned (.slice (some ⟨g, 0, none⟩) (zs.filter fun z => !p z.2).length c) ∧ RowS w' S (some ⟨g, 0, none⟩) (zs.filter fun z => !p z.2).length c (zs.filter fun z => !p z.2) ∧ w.grownBy w' (some g) := by
  have hl := hrow.length
  have HR := Lib.hid hrow
  have HP := Lib.hid hP
  have HI := Lib.hid (lsindex_is w _ n c (zs.map (·.2)) (by simpa using hl) (by omega) hrow.ls fn cap p hE (fun w1 B d x k1 hx => hP w1 B d x (Kept.of_grown k1 fun _ e => by cases e) hx))
  have hgl : g < w.heap.size := hrow.lt _ rfl
  have hnc : n ≤ c := by
    rcases hrow.1.2 with ⟨hv, _⟩ | ⟨g', cap', cur, hv, _, _, q, _⟩
    · cases hv
    · injection hv with _ _ h3; omega
  clear hrow hP
  go_enter Tryd.func28, Tryd.ntmps28
  go_wp2_with fail
  refine HI.out.mono ?_
  rintro e w1 ⟨rfl, k1⟩
  rcases firstI_cases p 0 (zs.map (·.2)) with ⟨q1, q2⟩ | ⟨k0, hk0, q1, q2, q3⟩
  · have hz : (zs.filter fun z => !p z.2) = zs := List.filter_eq_self.2 fun z hz => by rw [q2 _ (List.mem_map_of_mem hz)]; rfl
    rw [q1]
    have HK := Lib.hid (And.intro hl (And.intro k1 hz))
    clear hz q1 q2 hl k1
    go_wp2_with fail
    go_ret
    obtain ⟨hl, k1, hz⟩ := HK.out
    rw [hz]
    exact ⟨by rw [hl]; rfl, by rw [hl]; exact HR.out.kept (Kept.of_grown (F := fun _ => False) k1 fun _ e => by cases e) (fun _ h => h.elim), grown_weak k1 _⟩
  · have hk0n : k0 < zs.length := by simpa using hk0
    rw [q1, Nat.zero_add]
    have q2' : p zs[k0].2 = true := by simpa using q2
    have q3' : ∀ i (hi : i < k0), p (zs[i]'(by omega)).2 = false := fun i hi => by simpa using q3 i hi
    have hf0 := filtJ_all (p := p) (Nat.le_of_lt hk0n) q3'
    have hf1 : filtJ p zs (k0 + 1) = zs.take k0 := by rw [filtJ_succ (List.getElem?_eq_getElem hk0n), if_pos q2', hf0]
    have hfl : (filtJ p zs (k0 + 1)).length = k0 := by rw [hf1, List.length_take]; omega
    have hst : DelAt w g n c p zs (k0 + 1) w1 := by
      refine del_skip (wr := w) ⟨zs.map (·.1), HR.out.1, ?_, ?_, Kept.refl _ _⟩ (List.getElem?_eq_getElem hk0n) q2' k1
      · rw [hf0, ← List.map_take]; congr 1; simp
      · rw [List.map_drop]
    have HS := Lib.hid (And.intro hst (And.intro hfl hl))
    obtain ⟨I0, hI0⟩ : ∃ I0 : Int, I0 = (k0 : Int) := ⟨_, rfl⟩
    have hI00 : 0 ≤ I0 ∧ I0 ≤ 100000 := by omega
    have hne : (I0 == -1) = false := beq_eq_false_iff_ne.2 (by omega)
    rw [← hI0]
    have HI0 := Lib.hid (And.intro hI0 (show k0 < n by omega))
    clear q1 q2 q3 q2' q3' hf0 hf1 hfl hst hI0 hk0 hk0n hl k1
    go_wp2_with fail
    go_loopw [5, 6] (fun iv jv wr => ∃ (J : Nat), J ≤ n ∧ jv = .int .i64 (J : Int) ∧ iv = .int .i64 ((filtJ p zs J).length : Int) ∧ (filtJ p zs J).length < J ∧ DelAt w g n c p zs J wr) (fun _ jv _ => n - (intOf jv).toNat)
    case atStart => exact ⟨k0 + 1, by have := HI0.out.2; omega, by rw [HI0.out.1]; rfl, by rw [HS.out.2.1, HI0.out.1], by rw [HS.out.2.1]; omega, HS.out.1⟩
    case round =>
      obtain ⟨J, hJ, hjv, hiv, hfJ, hD⟩ := hrel
      obtain ⟨jj, hjj⟩ : ∃ jj : Int, jj = (J : Int) := ⟨_, rfl⟩
      obtain ⟨ii, hii⟩ : ∃ ii : Int, ii = ((filtJ p zs J).length : Int) := ⟨_, rfl⟩
      rw [← hjj] at hjv
      rw [← hii] at hiv
      subst hjv hiv
      by_cases hlt : J < n
      · have d1 : decide (jj < (n : Int)) = true := by simp; omega
        have b1 : 0 ≤ jj ∧ jj < (n : Int) := by omega
        have b2 : 0 ≤ ii ∧ ii < (n : Int) := by omega
        have hzl : zs.length = n := HS.out.2.2
        obtain ⟨z, hz⟩ : ∃ z, zs[J]? = some z := ⟨_, List.getElem?_eq_getElem (by omega)⟩
        obtain ⟨cells, r1, r2, r3, r4⟩ := id hD
        obtain ⟨B, cB, e1, e2, e3⟩ := HR.out.2.2 z (List.mem_of_getElem? hz)
        have e2' : BytesAt wr B z.2 := e2.kept' r4 (fun ad e hne h => (e3 ad e hne).2.1 _ rfl h.symm)
        have hcell : wr.cell? ⟨g, jj.toNat, none⟩ = some (.slice B z.2.length cB) := by
          refine own_cell r1 ?_
          have := congrArg (fun l => l[0]?) r3
          simp only [List.getElem?_drop, List.getElem?_map, Nat.add_zero, hz, Option.map_some] at this
          rw [show jj.toNat = J by omega, this, e1]
        have hfz : ∀ W, wr.grownBy W none → ∃ u, W.cell? ⟨g, ii.toNat, none⟩ = some u ∧ W.frozen? ⟨g, ii.toNat, none⟩ = false := fun W hW => by
          have hcl : cells.length = n := by have := r1.1; simpa using this
          have hii2 : ii.toNat < cells.length := by omega
          exact ⟨_, hW.cell (own_cell r1 (List.getElem?_eq_getElem hii2)) (by simp), own_unfrozen (own_kept r1 (Kept.of_grown (F := fun _ => False) hW fun _ e => by cases e) (fun _ _ h => h)) _⟩
        have HD := Lib.hid (And.intro hD (And.intro hz (And.intro hfJ (And.intro hjj (And.intro hii (And.intro hlt (And.intro r4 e2')))))))
        have HE := Lib.hid (And.intro e1 hfz)
        obtain ⟨r, hr⟩ : ∃ r, r = p z.2 := ⟨_, rfl⟩
        have Hr := Lib.hid hr
        clear hD r1 r2 r3 r4 e1 e2 e3 e2' hfz hr hz hfJ hjj hii hlt hJ hzl
        go_wp2_with fail
        refine (HP.out wr B cB z.2 HD.out.2.2.2.2.2.2.1 HD.out.2.2.2.2.2.2.2).mono ?_
        rintro e w2 ⟨rfl, k2⟩
        rw [← Hr.out]
        obtain ⟨u, c1, c2⟩ := HE.out.2 w2 k2
        have K2 := Lib.hid k2
        clear k2
        cases r with
        | true =>
          go_wp2_with fail
          go_roundw
          case rel =>
            obtain ⟨h1, h2, h3, h4, h5, h6, _, _⟩ := HD.out
            have hs := filtJ_succ (p := p) h2
            rw [if_pos Hr.out.symm] at hs
            exact ⟨J + 1, by omega, by rw [h4]; rfl, by rw [hs, h5], by rw [hs]; omega, del_skip h1 h2 Hr.out.symm K2.out⟩
          case measure => obtain ⟨h1, h2, h3, h4, h5, h6, _, _⟩ := HD.out; simp [intOf]; omega
        | false =>
          go_wp2_with fail
          go_roundw
          case rel =>
            obtain ⟨h1, h2, h3, h4, h5, h6, _, _⟩ := HD.out
            have hs := filtJ_succ (p := p) h2
            rw [← Hr.out] at hs
            simp only [Bool.false_eq_true, if_false] at hs
            have hl : (filtJ p zs (J + 1)).length = (filtJ p zs J).length + 1 := by rw [hs, List.length_append, List.length_singleton]
            refine ⟨J + 1, by omega, by rw [h4]; rfl, by rw [hl, h5]; rfl, by rw [hl]; omega, ?_⟩
            have := del_keep h1 h6 h2 Hr.out.symm h3 K2.out
            rw [show (filtJ p zs J).length = ii.toNat by omega, HE.out.1] at this
            exact this
          case measure => obtain ⟨h1, h2, h3, h4, h5, h6, _, _⟩ := HD.out; simp [intOf]; omega
      · have d1 : decide (jj < (n : Int)) = false := by simp; omega
        obtain rfl : J = n := by omega
        have b2 : 0 ≤ ii ∧ ii < (J : Int) := by omega
        obtain ⟨m, hm⟩ : ∃ m, m = (filtJ p zs J).length := ⟨_, rfl⟩
        rw [← hm] at hii hfJ
        obtain ⟨cells, r1, r2, r3, r4⟩ := id hD
        have hcl : cells.length = J := by have := r1.1; simpa using this
        have hclr : ∀ ty, (Builtin.clear_ #[31] ty #[.slice (some ⟨g, ii.toNat, none⟩) (J - ii.toNat) (c - ii.toNat)]).run Tryd.prog wr = .ok (.tuple #[]) (wr.setCells g ii.toNat (List.replicate (J - ii.toNat) (.slice none 0 0))) := fun ty =>
          Lib.run_clear_slice wr 31 30 ty (.slice none 0 0) Tryd.underlying31 zero_lst rfl rfl g ii.toNat (J - ii.toNat) (c - ii.toNat) (by omega)
            (fun j hj => by rw [own_cell r1 (List.getElem?_eq_getElem (show ii.toNat + j < cells.length by omega))]; rfl) (fun j _ => own_unfrozen r1 _)
        have HD := Lib.hid (And.intro r1 (And.intro r2 (And.intro r4 (And.intro hii (And.intro hfJ hm)))))
        clear hD r1 r2 r3 r4 hii hfJ hm hcl hjj hlt
        go_wp2_with fail
        go_ret
        obtain ⟨r1, r2, r4, hii, hfJ, hm⟩ := HD.out
        have hwhole : (zs.filter fun z => !p z.2) = filtJ p zs J := by rw [filtJ, List.take_of_length_le (by have := HS.out.2.2; omega)]
        have hlen : (zs.filter fun z => !p z.2).length = ii.toNat := by rw [hwhole, ← hm]; omega
        have hc := own_clear (List.replicate (J - ii.toNat) (.slice none 0 0)) ii.toNat _ (own_cut r1 ii.toNat (by omega)) (Nat.le_refl _)
        have hk := r4.next (kept_clear (g := g) (List.replicate (J - ii.toNat) (.slice none 0 0)) ii.toNat wr) (fun _ _ h => h)
        rw [hlen]
        refine ⟨rfl, ⟨?_, HR.out.2.1, fun z hz => (HR.out.2.2 z (List.mem_filter.1 hz).1).kept hk (fun k h1 _ => ⟨_, rfl, h1.symm⟩)⟩, hk.os, hk.tape, hk.output, hk.size, fun k hk2 hne => hk.block k hk2 (fun e => hne (by rw [e]))⟩
        rw [hwhole, ← r2, ← hm, show m = ii.toNat by omega]
        exact hc
end Go.Proofs.YtnhjokcjdjfijaaDoor
