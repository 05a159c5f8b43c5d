/-
  The document's own: powers that belong to an op.
-/
import Derived.Test.YtonkdcbmmdhjgaaDoorScQ
import Derived.Test.YtonkdcbmmdhjgaaDoorScH
namespace Go.Proofs.YtonkdcbmmdhjgaaDoor
open Go.RowKit Go.Shelf

theorem pieces_lenP (c : UInt8) (l : List UInt8) : (splitP c l).length ≤ l.length + 1 := by
  have h1 := joinP_len c (splitP c l) (splitP_ne c l)
  rw [joinP_splitP] at h1
  have : ∀ ps : List (List UInt8), ps.length ≤ (ps.map (·.length + 1)).sum := by
    intro ps
    induction ps with
    | nil => simp
    | cons a r ih => simp only [List.length_cons, List.map_cons, List.sum_cons]; omega
  have := this (splitP c l)
  omega
theorem words_cap {w : World} {base n c : Nat} {A : Option Addr} {xs : List Value} {e : TypeId} (h : w.ownsRow base e 1 (.slice A n c) n xs) : n ≤ c := by
  rcases h.2 with ⟨e, hl⟩ | ⟨g, cap, cur, e, _, hh, hnc, _⟩
  · injection e with e1 e2 e3
    omega
  · injection e with e1 e2 e3
    omega
theorem words_cell {w : World} {base n c : Nat} {A : Option Addr} {ps : List (List UInt8)} (hn : ps.length = n) (h0 : 0 < n) (h : w.ownsRow base 9 1 (.slice A n c) n (wordsC ps)) : ∃ b, A = some ⟨b, 0, none⟩ ∧ ∀ (k : Nat) (x : List UInt8), ps[k]? = some x → w.cell? ⟨b, k, none⟩ = some (.string (strB x)) := by
  rcases h.2 with ⟨e, hl⟩ | ⟨g, cap, cur, e, _, hh, _, _, hs, ht⟩
  · injection e with e1 e2 e3
    omega
  · injection e with e1 e2 e3
    subst e1 e3 hn
    refine ⟨g, rfl, fun k x hx => ?_⟩
    have hb : Blk w g 9 cur := hh
    rw [hb.cell k]
    have hj2 : (cur.toList.take (ps.length * 1))[k]? = some (.string (strB x)) := by rw [ht, wordsC, List.getElem?_map, hx]; rfl
    rw [List.getElem?_take] at hj2
    split at hj2
    · simpa using hj2
    · cases hj2
set_option maxRecDepth 100000 in
set_option maxHeartbeats 2000000 in
theorem partP_is (w : World) (g base : Nat) (o : OpM) (hb : Blk w g 56 o.val) (ho : o.Own w base) (hbase : base ≤ w.heap.size) (h3 : o.A1 = none ∧ o.c1 = 0 ∧ o.v.set = []) (s : ByteArray) (l : List UInt8) (hl : s.data.toList = l) (hs : s.size ≤ 100000) (hd : ¬ s = ⟨#[45]⟩) (he : ¬ s = ⟨#[]⟩) :
    Calls Tryd.prog 19 #[.pointer (some ⟨g, 0, none⟩), .int .u8 112, .string s] w (PartPost w g base 112 l o) := by
  obtain ⟨Q, hQ⟩ : ∃ Q, Q = PartPost w g base 112 l o := ⟨_, rfl⟩
  rw [← hQ]
  obtain ⟨i0, hi0, hz0, hz1, hz2⟩ := info_parts int_infoS
  have HI0 := Lib.hid (And.intro hi0 (And.intro hz0 (And.intro hz1 hz2)))
  have hln : l.length = s.size := by rw [← hl]; exact Array.length_toList
  have dd := lit_neB (a := [45]) hd
  have de := lit_neB (a := []) he
  have hdl : ¬ l = [45] := fun e => hd (by rw [← strB_of s, hl, e]; rfl)
  have HSP := Lib.hid (rsplit_is s 44 44 rfl l hl hs w)
  obtain ⟨ps, hps⟩ : ∃ ps, ps = splitP 44 l := ⟨_, rfl⟩
  rw [← hps] at HSP
  obtain ⟨n, hn⟩ : ∃ n, n = ps.length := ⟨_, rfl⟩
  rw [← hn] at HSP
  have hn1 : 1 ≤ n := by rw [hn, hps]; exact List.length_pos_iff.2 (splitP_ne 44 l)
  have hn2 : n ≤ 100001 := by rw [hn, hps]; have := pieces_lenP 44 l; omega
  have hr := Lib.hid (show readS 112 l o.v = (match numsS ps with | none => none | some ns => if ns.length ≤ 7 then some ns else none).map fun v => { o.v with set := v } by
    show (powS l).map _ = _
    unfold powS
    rw [if_neg hdl, ← hps]
    rfl)
  have HX := Lib.hid (And.intro hQ (And.intro hn (And.intro hb (And.intro ho hbase))))
  have H3 := Lib.hid h3
  clear hQ hb ho hl hi0 hz0 hz1 hz2 hdl hd he hbase h3 hln hps hn
  go_enter Tryd.func19, Tryd.ntmps19
  go_wp2_with fail
  refine HSP.out.mono ?_
  rintro e w1 ⟨A, cap, rfl, hown, k1⟩
  obtain ⟨b, rfl, _⟩ := words_cell HX.out.2.1.symm hn1 hown
  have HW := Lib.hid (And.intro hown (And.intro k1 (HX.out.2.2.1.grown k1 (by simp))))
  clear hown k1
  go_wp2_with fail
  go_loopw [92] (fun i wr => ∃ (k : Nat) (ns : List Int) (A1 : Option Addr) (c1 : Nat), k ≤ n ∧ i = .int .i64 (k : Int) ∧ Hid (numsS (ps.take k) = some ns ∧ ns.length = k ∧ Blk wr g 56 #[.int .i64 o.v.kind, .int .i64 o.v.node, .int .i64 o.v.n, .slice A1 k c1, .slice o.A2 o.v.keep.length o.c2, .slice o.A3 o.v.data.length o.c3] ∧ wr.ownsRow w1.heap.size 3 1 (.slice A1 k c1) k (ns.map (Value.int .i64)) ∧ w1.grownBy wr (some g))) (fun i _ => n - (intOf i).toNat)
  case atStart =>
    refine ⟨0, [], none, 0, Nat.zero_le _, rfl, Lib.hid ⟨rfl, rfl, ?_, World.ownsRow_nil _ _ _ _, World.grownBy.refl _ _⟩⟩
    have h := HW.out.2.2
    unfold OpM.val at h
    rwa [H3.out.1, H3.out.2.1, H3.out.2.2] at h
  case round =>
    obtain ⟨k, ns, A1, c1, hk, rfl, HI⟩ := hrel
    rename World => wr
    by_cases hlt : k < n
    · have d1 : decide ((k : Int) < (n : Int)) = true := by simp; omega
      have hkl : k < ps.length := by rw [← HX.out.2.1]; exact hlt
      obtain ⟨x, hx⟩ : ∃ x, ps[k]? = some x := ⟨_, List.getElem?_eq_getElem hkl⟩
      have hw := own_apart HW.out.1 HW.out.2.2 (by decide) HI.out.2.2.2.2
      obtain ⟨b', hb', hcw⟩ := words_cell HX.out.2.1.symm hn1 hw
      obtain rfl : b = b' := by injection hb' with e; injection e
      obtain ⟨S, hS⟩ : ∃ S, S = strB x := ⟨_, rfl⟩
      have c0 : wr.cell? ⟨b, k, none⟩ = some (.string S) := by rw [hS]; exact hcw k x hx
      have HN := Lib.hid (rnumber_is S x (by rw [hS, strB_list]) wr)
      obtain ⟨V, hV⟩ : ∃ V, V = rnumV x := ⟨_, rfl⟩
      rw [← hV] at HN
      have htk : ps.take (k + 1) = ps.take k ++ [x] := by rw [List.take_add_one, hx]; rfl
      have hsp : ps = ps.take k ++ x :: ps.drop (k + 1) := by
        obtain ⟨_, ex⟩ := List.getElem?_eq_some_iff.1 hx
        conv => lhs; rw [← List.take_append_drop k ps]
        rw [List.drop_eq_getElem_cons hkl, ex]
      have HH := Lib.hid (And.intro hV (And.intro htk hsp))
      clear hx hw hcw hS hV htk hsp hkl hb'
      go_wp2_with fail
      refine HN.out.mono ?_
      rintro e w2 ⟨rfl, k2⟩
      have g2 := grown_trans HI.out.2.2.2.2 (grown_weak k2 (some g))
      cases hns : numS x with
      | none =>
        have hv := HH.out.1.trans (rnumV_none hns)
        have d2 : decide (V < 0) = true := by rw [hv]; rfl
        have HB := Lib.hid (And.intro g2 (show numsS ps = none by
          rw [HH.out.2.2, numsS_app _ _ _ HI.out.1, numsS, hns]; rfl))
        clear g2 k2 hns hv c0
        go_wp2_with fail
        rw [HX.out.1]
        exact ⟨grown_trans (grown_weak HW.out.2.1 (some g)) HB.out.1, by rw [hr.out, HB.out.2]; rfl⟩
      | some v =>
        have hv := HH.out.1.trans (rnumV_some hns).1
        have d2 : decide (V < 0) = false := by rw [hv]; have := (rnumV_some hns).2; simp; omega
        have b2 := HI.out.2.2.1.grown k2 (by simp)
        have o2 := own_gr HI.out.2.2.2.1 k2
        have c3 : w2.cell? ⟨g, 3, none⟩ = some (.slice A1 k c1) := b2.cell 3
        have f3 := b2.frozen 3
        have hrun : ∃ A' c' w', (Builtin.append_ #[35, 35] 35 #[.slice A1 k c1, .slice (some ⟨w2.heap.size, 0, none⟩) 1 1]).run Tryd.prog (w2.alloc (.cells #[.int .i64 V] 3)) = .ok (.slice A' (k + 1) c') w' ∧ w'.ownsRow w1.heap.size 3 1 (.slice A' (k + 1) c') (k + 1) (ns.map (Value.int .i64) ++ [.int .i64 V]) ∧ w2.grownBy w' (Value.slice A1 k c1).ownBlock := by
          obtain ⟨v', w', h1, h2, h3⟩ := push_run w2 35 35 3 3 i0 (.int .i64 0) 8 Tryd.underlying35 HI0.out.1 HI0.out.2.1 HI0.out.2.2.1 HI0.out.2.2.2 rfl w1.heap.size (.slice A1 k c1) k _ o2 [.int .i64 V] (by simp [Value.oneCell']) (by omega) (by simp) (by omega) g2.size
          obtain ⟨A', c', rfl⟩ := own_slice _ h2
          exact ⟨A', c', w', h1, h2, h3⟩
        obtain ⟨A', c', w3, hrun, hown3, hgrow⟩ := hrun
        have b3 := b2.grown hgrow (own_ne o2 b2 (by decide)).symm
        have c6 : w3.cell? ⟨g, 3, none⟩ = some (.slice A1 k c1) := b3.cell 3
        have f6 := b3.frozen 3
        have gs := gset w3 g 3 (.slice A' (k + 1) c')
        have g3 : w1.grownBy w3 (some g) := by
          cases hob : (Value.slice A1 k c1).ownBlock with
          | none => rw [hob] at hgrow; exact grown_trans g2 (grown_weak hgrow (some g))
          | some gx => rw [hob] at hgrow; exact grown_fresh g2 hgrow (o2.lt gx hob).1
        have HB := Lib.hid (And.intro (b3.set 3 (.slice A' (k + 1) c')) (And.intro (own_apart hown3 b3 (by decide) gs) (And.intro (grown_trans g3 gs) (And.intro hv hns))))
        clear b3 gs g3 hown3 hgrow b2 o2 g2 k2 hv hns c0
        go_wp2_with (at_builtin
                     refine wpList_plain rfl fun K9 hK9 => wp_append rfl rfl rfl hrun (hK9 _ _ ?_))
        go_roundw
        case rel =>
          obtain ⟨n1, n2, n3, hv, hns⟩ := HB.out
          refine ⟨k + 1, ns ++ [V], A', c', by omega, rfl, Lib.hid ⟨?_, by rw [List.length_append, List.length_singleton, HI.out.2.1], n1, ?_, n3⟩⟩
          · rw [HH.out.2.1, numsS_app _ _ _ HI.out.1, numsS, hns, hv]; rfl
          · rw [List.map_append]; exact n2
        case measure => simp [intOf]; omega
    · have d1 : decide ((k : Int) < (n : Int)) = false := by simp; omega
      obtain rfl : k = n := by omega
      have HN := Lib.hid (show numsS ps = some ns by
        have := HI.out.1
        rwa [List.take_of_length_le (by rw [← HX.out.2.1]; exact Nat.le_refl _)] at this)
      by_cases h7 : k ≤ 7
      · have e1 : decide ((k : Int) ≤ 7) = true := by simp; omega
        go_wp2_with fail
        rw [HX.out.1]
        have hg := grown_trans (grown_weak HW.out.2.1 (some g)) HI.out.2.2.2.2
        refine ⟨hg, ?_⟩
        rw [hr.out, HN.out]
        obtain ⟨_, hlen, hb, hown, _⟩ := HI.out
        simp only [hlen, if_pos h7]
        subst hlen
        have h9 := HX.out.2.2.2.1.apartR HX.out.2.2.1 hg
        exact ⟨⟨{ o.v with set := ns }, A1, c1, o.A2, o.c2, o.A3, o.c3⟩, rfl, rfl, hb, ⟨own_mono hown (Nat.le_trans HX.out.2.2.2.2 HW.out.2.1.size), h9.2.1, h9.2.2⟩, fun c' hne h => ⟨h.1, fun e => absurd e hne, h.2.2⟩⟩
      · have e1 : decide ((k : Int) ≤ 7) = false := by simp; omega
        go_wp2_with fail
        rw [HX.out.1]
        refine ⟨grown_trans (grown_weak HW.out.2.1 (some g)) HI.out.2.2.2.2, ?_⟩
        rw [hr.out, HN.out]
        simp only [HI.out.2.1, if_neg h7]
        rfl
end Go.Proofs.YtonkdcbmmdhjgaaDoor
