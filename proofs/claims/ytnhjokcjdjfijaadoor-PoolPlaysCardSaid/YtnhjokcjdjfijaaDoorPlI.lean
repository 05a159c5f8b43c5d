/-
  Pool: Take, walked.
-/
import Derived.Test.YtnhjokcjdjfijaaDoorPlH
namespace Go.Proofs.YtnhjokcjdjfijaaDoor
open Go.RowKit Go.Shelf

attribute [local go_sem] Oper.semAt_some

theorem keepsOwn {W W' : World} {base size n : Nat} {e : TypeId} {v : Value} {xs : List Value} (h : W.ownsRow base e size v n xs) (hg : W.grownBy W' v.ownBlock) : KeepsOthers W W' := KeepsOthers.of_grownBy hg (fun j o ej ho => by
  rcases h.2 with ⟨rfl, _⟩ | ⟨g, cap, cur, rfl, _, hh, _⟩
  · simp [Value.ownBlock] at ej
  · have : g = j := by simpa [Value.ownBlock] using ej
    subst this
    rw [hh] at ho
    obtain rfl := Option.some.inj ho
    rfl)
set_option maxRecDepth 100000 in
set_option maxHeartbeats 4000000 in
theorem pool_take (w : World) (S T : Nat → Prop) (p : Nat) (L : List (List UInt8)) (h : PoolIs w S p L) (hL : L.length ≤ 1000) (hsm : ∀ y ∈ L, y.length ≤ 100000) (nn : Int) (A0 : Option Addr) (nD cD : Nat) (D : List (List UInt8)) (hn : D.length = nD) (hnb : nD ≤ 100000) (hD : LsIn w T A0 D) (hT : ∀ k, T k → k < w.heap.size) :
    Calls Tryd.prog 14 #[.pointer (some ⟨p, 0, none⟩), .int .i64 nn, .slice A0 nD cD] w (takeOk nn D L w) := by
  obtain ⟨i0, hi, hz0, hz1, hz2⟩ := info_parts lst_info
  have HI0 := Lib.hid (And.intro hi (And.intro hz0 (And.intro hz1 hz2)))
  have HN := Lib.hid (And.intro h (And.intro hL (And.intro hsm (And.intro hn (And.intro hnb (And.intro hD hT))))))
  clear h hL hsm hn hnb hD hT hi hz0 hz1 hz2
  refine (callsIn_wide (n := 6)).1 ?_
  refine callsIn_of_wp_marks Tryd.func14 rfl trivial ?_ rfl
  simp only [Tryd.ntmps14, List.size_toArray, List.length_cons, List.length_nil, Nat.reduceAdd, Nat.reduceSub, Array.replicate_succ, Array.replicate_zero, List.push_toArray, List.append_toArray, List.nil_append, List.cons_append]
  gi_wp2
  refine ⟨trivial, ?_⟩
  refine (all_in _ _ _ _ rfl).mono ?_
  rintro e w1 ⟨rfl, rfl⟩
  gi_wp2
  have g1 := World.grownBy_alloc w (.cells #[.int .i64 nn] 3) none
  have g2 := World.grownBy_alloc (w.alloc (.cells #[.int .i64 nn] 3)) (.cells #[.slice A0 nD cD] 31) none
  have g3 := World.grownBy_alloc ((w.alloc (.cells #[.int .i64 nn] 3)).alloc (.cells #[.slice A0 nD cD] 31)) (.cells #[.slice none 0 0] 31) none
  have g4 := World.grownBy_alloc (((w.alloc (.cells #[.int .i64 nn] 3)).alloc (.cells #[.slice A0 nD cD] 31)).alloc (.cells #[.slice none 0 0] 31)) (.cells #[.pointer (some ⟨p, 0, none⟩)] 24) none
  have b1 := Blk.new w 3 #[.int .i64 nn]
  have b2 := Blk.new (w.alloc (.cells #[.int .i64 nn] 3)) 31 #[.slice A0 nD cD]
  have b3 := Blk.new ((w.alloc (.cells #[.int .i64 nn] 3)).alloc (.cells #[.slice A0 nD cD] 31)) 31 #[.slice none 0 0]
  have b4 := Blk.new (((w.alloc (.cells #[.int .i64 nn] 3)).alloc (.cells #[.slice A0 nD cD] 31)).alloc (.cells #[.slice none 0 0] 31)) 24 #[.pointer (some ⟨p, 0, none⟩)]
  have b1' := ((b1.grown g2 (by simp)).grown g3 (by simp)).grown g4 (by simp)
  have b2' := (b2.grown g3 (by simp)).grown g4 (by simp)
  have b3' := b3.grown g4 (by simp)
  have gg := grown_trans (grown_trans (grown_trans g1 g2) g3) g4
  simp only [World.size_alloc] at b2' b3' b4
  obtain ⟨W0, hW0⟩ : ∃ W0, (((w.alloc (.cells #[.int .i64 nn] 3)).alloc (.cells #[.slice A0 nD cD] 31)).alloc (.cells #[.slice none 0 0] 31)).alloc (.cells #[.pointer (some ⟨p, 0, none⟩)] 24) = W0 := ⟨_, rfl⟩
  have hsz : W0.heap.size = w.heap.size + 4 := by rw [← hW0]; simp
  rw [hW0] at b1' b2' b3' b4 gg ⊢
  clear b1 b2 b3 g1 g2 g3 g4 hW0
  have K0 := Kept.of_grown (F := fun _ => False) gg fun _ e => by cases e
  have HW := Lib.hid (And.intro gg (And.intro K0 hsz))
  have hst : TakeI w W0 nn A0 nD cD T D [] (takeL nn D (L.take 0)) W0 := by
    have hz : takeL nn D (L.take 0) = [] := by simp [takeL, dropL]
    rw [hz]
    exact ⟨b1', b2', HN.out.2.2.2.2.2.1.kept K0 (fun _ h => h.elim), Kept.refl _ _, none, 0, [], b3', RowS.nil, rfl, fun _ e => by cases e⟩
  refine wpIn_rangeFunc_told rfl (by omega) (gf := 30) (lb := #[.pointer (some ⟨w.heap.size + 1 + 1 + 1, 0, none⟩)]) rfl trivial (enters_of Tryd.func30 (by kernel_rfl) rfl)
    (all_seq 5 (by omega) (w.heap.size + 1 + 1 + 1) p S L HN.out.2.1 HN.out.2.2.1 W0 (HN.out.1.kept K0 (fun _ h => h.elim)) b4) (fun h1 h2 => Still.trans h1 h2)
    (fun x W l o o' hl ho hc _ => Still.put ho hc) PhiT.mono (Below.refl _ _) (fun _ => rfl)
    (fun pre W => TakeI w W0 nn A0 nD cD T D pre (takeL nn D (L.take pre.length)) W)
    (fun c' pre W => c' = .exit 0 ∧ TakeI w W0 nn A0 nD cD T D pre (takeL nn D L) W)
    (takeI_own (fun pre => pre) (fun pre => takeL nn D (L.take pre.length)) (by omega))
    (fun c' => OwnFrom.and (ownFrom_pure _) (takeI_own (fun pre => pre) (fun _ => takeL nn D L) (by omega)))
    hst
    (fun pre x a' W => a' = { tmps := #[.pointer (some ⟨p, 0, none⟩), .int .i64 nn, .slice A0 nD cD, undef, .pointer (some ⟨w.heap.size, 0, none⟩), .pointer (some ⟨w.heap.size + 1, 0, none⟩), .slice none 0 0, .pointer (some ⟨w.heap.size + 1 + 1, 0, none⟩), .slice x.B x.x.length x.d, .pointer (some ⟨p, 0, none⟩), .func (.func 30) #[] #[.pointer (some ⟨w.heap.size + 1 + 1 + 1, 0, none⟩)], .slice x.B x.x.length x.d, undef, undef, undef, undef, undef, undef, undef, undef, undef, undef, undef, undef, undef], defers := [] } ∧ TxAt W0.heap.size L pre x W)
    (fun pre x a' => OwnFrom.and (ownFrom_pure _) txAt_own) ?assign ?body ?done ?stop
  case assign =>
    rintro l pre x W K hI hphi hK
    have HK := Lib.hid (hK _ W ((keeps_grown (World.grownBy.refl W none)).from _) (Still.refl _ _ _) hI ⟨rfl, hphi⟩)
    clear hK hI hphi
    simp only [txE]
    gi_wp2
    exact HK.out
  case body =>
    rintro l pre x a' W hl0 hl1 hI ⟨rfl, hx⟩
    obtain ⟨M, hM⟩ : ∃ M, M = takeL nn D (L.take pre.length) := ⟨_, rfl⟩
    rw [← hM] at hI
    obtain ⟨h1, h2, h3, h4, A, c, zs, h5, h6, h7, h8⟩ := hI
    have c1 := h1.cell 0
    have c2 := h2.cell 0
    have c3 := (show Blk W (w.heap.size + 1 + 1) 31 #[.slice A M.length c] from h5).cell 0
    simp only [List.getElem?_toArray, List.getElem?_cons_zero] at c1 c2 c3
    by_cases hlt : nn ≤ (M.length : Int)
    · have d1 : decide (nn ≤ (M.length : Int)) = true := by simpa using hlt
      have HB := Lib.hid (show TakeI w W0 nn A0 nD cD T D (pre ++ [x]) M W from ⟨h1, h2, h3, h4, A, c, zs, h5, h6, h7, fun ad e => by obtain ⟨y, hy, hh⟩ := h8 ad e; exact ⟨y, List.mem_append_left _ hy, hh⟩⟩)
      have HM := Lib.hid (And.intro hM hlt)
      clear h1 h2 h3 h4 h5 h6 h7 h8 hx hM hlt
      gi_wp2
      refine ⟨(keeps_grown (World.grownBy.refl W none)).from _, rfl, ?_⟩
      obtain ⟨hM, hlt⟩ := HM.out
      rw [hM] at hlt
      rw [← takeL_stop hlt, ← hM]
      exact HB.out
    · have d1 : decide (nn ≤ (M.length : Int)) = false := by simpa using hlt
      obtain ⟨r, hr⟩ : ∃ r, r = isIn D x.x := ⟨_, rfl⟩
      have hin := in_is W A0 nD cD D HN.out.2.2.2.1 (by have := HN.out.2.2.2.2.1; omega) h3.ls x.B x.d x.x hx.2.1
      have hin' : Calls Tryd.prog 27 #[.slice A0 nD cD, .slice x.B x.x.length x.d] W fun e w' => e = .returned (.bool r) ∧ W.grownBy w' none := by rw [hr]; exact hin
      have HIN := Lib.hid hin'
      have HB := Lib.hid (And.intro h1 (And.intro h2 (And.intro h3 (And.intro h4 (And.intro h5 (And.intro h6 (And.intro h7 h8)))))))
      have HM := Lib.hid (And.intro hM (And.intro hlt (And.intro hr hx)))
      clear h1 h2 h3 h4 h5 h6 h7 h8 hx hM hlt hr hin hin'
      gi_wp2
      refine ⟨trivial, (CallsIn.inRound l (callsIn_wide.2 HIN.out)).mono ?_⟩
      rintro e w2 ⟨rfl, k2⟩
      have K2 := Kept.of_grown (F := fun _ => False) k2 fun _ e => by cases e
      have hM2 : takeL nn D (L.take (pre ++ [x]).length) = if r then M else M ++ [x.x] := by
        obtain ⟨hM, hlt, hr, hx⟩ := HM.out
        rw [hM, hr, List.length_append, List.length_singleton]
        exact takeL_go hx.1 (by rw [← hM]; omega)
      have HM2 := Lib.hid hM2
      have hph : (∀ ad, x.B = some ad → x.x ≠ [] → x.lo ≤ ad.block ∧ ad.block < x.hi) ∧ x.hi ≤ W.heap.size ∧ W0.heap.size ≤ x.lo ∧ (∀ y ∈ pre, y.lo = x.lo ∧ y.hi = x.hi) ∧ BytesAt W x.B x.x ∧ ∀ ad, x.B = some ad → x.x ≠ [] → Soft W ad.block := by
        obtain ⟨_, _, _, q1, q2, q3, q4, q5, q6, q7⟩ := HM.out
        exact ⟨q3, q4, q5, q6, q2, q7⟩
      have HPH := Lib.hid hph
      have hT2 : ∀ k, T k → ¬ (w.heap.size + 2 ≤ k) := fun k h1 h2 => by have := HN.out.2.2.2.2.2.2 k h1; omega
      have HT2 := Lib.hid hT2
      have HK2 := Lib.hid (And.intro k2 K2)
      clear hM2 hph hT2 k2 K2
      cases r with
      | true =>
        gi_wp2
        obtain ⟨h1, h2, h3, h4, h5, h6, h7, h8⟩ := HB.out
        obtain ⟨k2, K2⟩ := HK2.out
        refine ⟨(keeps_grown k2).from _, Still.of_kept K2 (fun _ h => h.elim), ?_⟩
        show TakeI w W0 nn A0 nD cD T D (pre ++ [x]) (takeL nn D (L.take (pre ++ [x]).length)) w2
        rw [HM2.out]
        exact ⟨h1.grown k2 (by simp), h2.grown k2 (by simp), h3.kept K2 (fun _ h => h.elim), h4.next K2 (fun _ _ h => h.elim), A, c, zs, h5.grown k2 (by simp), h6.kept K2 (fun _ h => h.elim), h7, fun ad e => by obtain ⟨y, hy, hh⟩ := h8 ad e; exact ⟨y, List.mem_append_left _ hy, hh⟩⟩
      | false =>
        obtain ⟨h1, h2, h3, h4, h5, h6, h7, h8⟩ := HB.out
        obtain ⟨k2, K2⟩ := HK2.out
        have h6' := h6.kept K2 (fun _ h => h.elim)
        have h5' : Blk w2 (w.heap.size + 1 + 1) 31 #[.slice A M.length c] := h5.grown k2 (by simp)
        have hMl : M.length ≤ 1000 := by
          have h0 := HN.out.2.1
          obtain ⟨hM, _⟩ := HM.out
          have h9 : (dropL (L.take pre.length) D).length ≤ (L.take pre.length).length := List.length_filter_le _ _
          rw [hM, takeL, List.length_take]
          rw [List.length_take] at h9
          omega
        have c4 := h5'.cell 0
        simp only [List.getElem?_toArray, List.getElem?_cons_zero] at c4
        have hafter : ∀ W3, (w2.alloc (.cells #[.slice x.B x.x.length x.d] 30)).grownBy W3 (Value.slice A M.length c).ownBlock → W3.cell? ⟨w.heap.size + 1 + 1, 0, none⟩ = some (.slice A M.length c) ∧ W3.frozen? ⟨w.heap.size + 1 + 1, 0, none⟩ = false := fun W3 h3 => by
          have hb3 : Blk W3 (w.heap.size + 1 + 1) 31 #[.slice A M.length c] := (h5'.alloc _).grown h3 (fun e => by
            obtain ⟨a, e1, e2⟩ := own_at e.symm
            have := h6.2.1 a e1
            have := HW.out.2.2
            omega)
          exact ⟨hb3.cell 0, hb3.frozen 0⟩
        have HA := Lib.hid hafter
        have HB2 := Lib.hid (And.intro h6' h5')
        have hown0 := h6'.1.alloc (.cells #[.slice x.B x.x.length x.d] 30)
        have HO := Lib.hid hown0
        clear h1 h2 h3 h4 h5 h6 h7 h8 k2 K2 h6' h5' hafter hown0
        gi_wp2_with (gi_at_builtin; refine wpListIn_push_one _ rfl _ _ 31 rfl 0 30 i0 _ 24 Tryd.underlying31 HI0.out.1 HI0.out.2.1 HI0.out.2.2.1 HI0.out.2.2.2 rfl (.slice A M.length c) M.length _ rfl HO.out ⟨w2.heap.size, 0, none⟩ 1 (.slice x.B x.x.length x.d) rfl (Blk.cell (Blk.new _ _ _) 0) rfl (by omega) (by omega) (Nat.zero_le _) ?_; intro A' c' w3 hown3 hg3 hat3; have q3 := (HA.out w3 hg3).1; have q4 := (HA.out w3 hg3).2)
        obtain ⟨h1, h2, h3, h4, h5, h6, h7, h8⟩ := HB.out
        obtain ⟨k2, K2⟩ := HK2.out
        obtain ⟨q1, q2, q3', q4', q5, q6⟩ := HPH.out
        have hA8 : ∀ a, A = some a → x.hi ≤ a.block := fun a e => by
          obtain ⟨y, hy, hh⟩ := h8 a e
          rw [← (q4' y hy).2]; exact hh
        have hsz0 := HW.out.2.2
        have hw2 := k2.size
        have hW0 := h4.size
        obtain ⟨r1, r2, r3⟩ := HB2.out.1.push (S := fun b => W0.heap.size ≤ b) (q5.kept' K2 (fun _ _ _ h => h)) (fun ad e hne => ⟨by have := q1 ad e hne; show W0.heap.size ≤ ad.block; omega, fun a ea => by have := q1 ad e hne; have := hA8 a ea; omega, (q6 ad e hne).kept K2 (fun h => h)⟩) hown3 hg3 hat3 (fun k hk => by show W0.heap.size ≤ k; omega)
        have KS : Kept (fun j => j = w.heap.size + 2) w3 (w3.setCell ⟨w.heap.size + 1 + 1, 0, none⟩ (.slice A' (M.length + 1) c')) := (Kept.refl (fun j => j = w.heap.size + 2) w3).set (p := ⟨w.heap.size + 1 + 1, 0, none⟩) (.inl rfl) _
        have KA : Kept (fun j => atB A j ∨ j = w.heap.size + 2) W (w3.setCell ⟨w.heap.size + 1 + 1, 0, none⟩ (.slice A' (M.length + 1) c')) := ((K2.mono (G := fun j => atB A j ∨ j = w.heap.size + 2) (fun _ _ h => h.elim)).next r2 (fun k hk h => .inl h)).next KS (fun k hk h => .inr h)
        have hAl : ∀ j, atB A j → W0.heap.size ≤ j := fun j ⟨a, e1, e2⟩ => by subst e2; exact h6.2.1 a e1
        have hb3 : Blk w3 (w.heap.size + 1 + 1) 31 #[.slice A M.length c] := HB2.out.2.kept r2 (fun h => by have := hAl _ h; omega)
        have hb4 : Blk (w3.setCell ⟨w.heap.size + 1 + 1, 0, none⟩ (.slice A' (M.length + 1) c')) (w.heap.size + 1 + 1) 31 #[.slice A' (M.length + 1) c'] := by simpa using hb3.set 0 (.slice A' (M.length + 1) c')
        refine ⟨(((keeps_grown k2).trans ((KeepsOthers.alloc _ _).trans (keepsOwn HO.out hg3))).trans (KeepsOthers.setCell _ _ _)).from _, Still.of_kept KA (fun k hf hk => ?_), ?_⟩
        · rcases hf with ⟨a, e1, e2⟩ | hf
          · have := hA8 a e1; omega
          · omega
        · show TakeI w W0 nn A0 nD cD T D (pre ++ [x]) (takeL nn D (L.take (pre ++ [x]).length)) _
          rw [HM2.out]
          simp only [Bool.false_eq_true, if_false]
          refine ⟨h1.kept KA (fun h => ?_), h2.kept KA (fun h => ?_), h3.kept KA (fun k hf hk => ?_), h4.next KA (fun k hk h => ?_), A', c', zs ++ [(.slice x.B x.x.length x.d, x.x)], ?_, ?_, ?_, fun ad e => ⟨x, by simp, ?_⟩⟩
          · rcases h with h | h
            · have := hAl _ h; omega
            · omega
          · rcases h with h | h
            · have := hAl _ h; omega
            · omega
          · rcases hf with hf | hf
            · have := hAl _ hf; have := HT2.out k hk; omega
            · have := HT2.out k hk; omega
          · rcases h with h | h
            · have := hAl _ h; show w.heap.size + 2 ≤ k; omega
            · show w.heap.size + 2 ≤ k; omega
          · rw [List.length_append, List.length_singleton]; exact hb4
          · rw [List.length_append, List.length_singleton]; exact r1.kept KS (fun k h h2 => by have h2 : W0.heap.size ≤ k := h2; omega)
          · simp [h7]
          · rcases r3 ad e with ⟨a, e1, e2⟩ | h
            · have := hA8 a e1; omega
            · omega
  case done =>
    rintro Dd xs W hD hS hI hK
    have hMx : takeL nn D (L.take xs.length) = takeL nn D L := by rw [List.take_of_length_le (by rw [← hS, List.length_map]; exact Nat.le_refl _)]
    have hI' : TakeI w W0 nn A0 nD cD T D xs (takeL nn D L) W := by rw [← hMx]; exact hI
    obtain ⟨h1, h2, h3, h4, A, c, zs, h5, h6, h7, h8⟩ := hI'
    have c3 := (show Blk W (w.heap.size + 1 + 1) 31 #[.slice A (takeL nn D L).length c] from h5).cell 0
    simp only [List.getElem?_toArray, List.getElem?_cons_zero] at c3
    have HB := Lib.hid (And.intro h4 (And.intro h6 h7))
    have HK := Lib.hid (And.intro hK hD)
    obtain ⟨ml, hml⟩ : ∃ ml, ml = (takeL nn D L).length := ⟨_, rfl⟩
    rw [← hml] at c3
    have HML := Lib.hid hml
    clear hml h1 h2 h3 h4 h5 h6 h7 h8 hI hMx hK hD hS
    gi_wp2
    refine ⟨by simp, .inl ⟨_, _, rfl, run_takeDeferred HK.out.1, ?_⟩⟩
    obtain ⟨h4, h6, h7⟩ := HB.out
    have hp := Kept.of_grown (F := fun j => j = Dd) (grownBy_putObj' W Dd (.deferred none)) (fun j e => (Option.some.inj e).symm)
    have hDl := HK.out.2
    have same := cells_same (grownBy_putObj' W Dd (.deferred none)) (fun r e => by cases e; exact ⟨_, HK.out.1, rfl⟩)
    have h6' : RowS (W.putObj Dd (.deferred none)) (fun b => w.heap.size ≤ b) A (takeL nn D L).length c zs := (h6.mono (T := fun b => w.heap.size ≤ b ∧ b < W.heap.size) (fun k hk h => ⟨by have := HW.out.2.2; have h : W0.heap.size ≤ k := h; omega, hk⟩)).still (fun _ h => h) ⟨(grownBy_putObj' W Dd (.deferred none)).size, fun b o _ _ q1 q2 => same b o q1 q2⟩ |>.mono (fun _ _ h => h.1)
    exact ⟨_, results_tmp rfl _ _ _, A, c, zs, by rw [← HML.out]; rfl, h6', h7, (((HW.out.2.1.next h4 (fun k hk h => by have h : w.heap.size + 2 ≤ k := h; omega)).next hp (fun k hk h => by have := HW.out.2.2; have h : k = Dd := h; omega)).grownNone (fun _ _ h => h))⟩
  case stop => 
    rintro Dd c' pre W hD hk ⟨hc, hI⟩ hK
    subst hc
    obtain ⟨h1, h2, h3, h4, A, c, zs, h5, h6, h7, h8⟩ := hI
    have c3 := (show Blk W (w.heap.size + 1 + 1) 31 #[.slice A (takeL nn D L).length c] from h5).cell 0
    simp only [List.getElem?_toArray, List.getElem?_cons_zero] at c3
    have HB := Lib.hid (And.intro h4 (And.intro h6 h7))
    have HK := Lib.hid (And.intro hK hD)
    obtain ⟨ml, hml⟩ : ∃ ml, ml = (takeL nn D L).length := ⟨_, rfl⟩
    rw [← hml] at c3
    have HML := Lib.hid hml
    clear hml h1 h2 h3 h4 h5 h6 h7 h8 hK hD
    gi_wp2
    refine ⟨by simp, .inl ⟨_, _, rfl, run_takeDeferred HK.out.1, ?_⟩⟩
    obtain ⟨h4, h6, h7⟩ := HB.out
    have hp := Kept.of_grown (F := fun j => j = Dd) (grownBy_putObj' W Dd (.deferred none)) (fun j e => (Option.some.inj e).symm)
    have hDl := HK.out.2
    have same := cells_same (grownBy_putObj' W Dd (.deferred none)) (fun r e => by cases e; exact ⟨_, HK.out.1, rfl⟩)
    have h6' : RowS (W.putObj Dd (.deferred none)) (fun b => w.heap.size ≤ b) A (takeL nn D L).length c zs := (h6.mono (T := fun b => w.heap.size ≤ b ∧ b < W.heap.size) (fun k hk h => ⟨by have := HW.out.2.2; have h : W0.heap.size ≤ k := h; omega, hk⟩)).still (fun _ h => h) ⟨(grownBy_putObj' W Dd (.deferred none)).size, fun b o _ _ q1 q2 => same b o q1 q2⟩ |>.mono (fun _ _ h => h.1)
    exact ⟨_, results_tmp rfl _ _ _, A, c, zs, by rw [← HML.out]; rfl, h6', h7, (((HW.out.2.1.next h4 (fun k hk h => by have h : w.heap.size + 2 ≤ k := h; omega)).next hp (fun k hk h => by have := HW.out.2.2; have h : k = Dd := h; omega)).grownNone (fun _ _ h => h))⟩
end Go.Proofs.YtnhjokcjdjfijaaDoor
