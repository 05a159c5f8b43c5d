/-
  The reference reader's Fixed and Bytes.
-/
import Derived.Test.YtmmjpkijnecmcaaDoorModel5
import Derived.Test.YtmmjpkijnecmcaaDoorPut
namespace Go.Proofs.YtmmjpkijnecmcaaDoor
open Go.RowKit

section
variable (w : World) (m : Nat) (A : Option Addr) (c : Nat) (b : List UInt8)
theorem mfixed_err (e : Nat) (k : Nat) (n : Int) (he : e ≠ 0) (h : MdIs w m A c b k e) :
    Calls Tryd.prog 51 #[.pointer (some ⟨m, 0, none⟩), .int .i64 n] w fun en w' => en = .returned (.slice none 0 0) ∧ MdIs w' m A c b k e ∧ Kept (fun j => j = m) w w' := by
  have b1 : ((e : Int) == 0) = false := by simp; omega
  have b2 : ((e : Int) != 0) = true := by simp; omega
  by_cases hn : n < 0
  · have d1 : decide (n < 0) = true := by simpa using hn
    have H := Lib.hid h
    clear h hn
    go_enter Tryd.func51, Tryd.ntmps51
    go_wp2_with fail
    refine (mfail w m A c b k e 1 e (if_neg he) H.out).mono ?_
    rintro en w1 ⟨rfl, h1, k1⟩
    have c2 : w1.cell? ⟨m, 2, none⟩ = some (.int .i64 (e : Int)) := h1.1.cell 2
    have H1 := Lib.hid h1
    clear h1
    go_wp2_with fail
    go_ret
    exact ⟨rfl, H1.out, k1⟩
  · have d1 : decide (n < 0) = false := by simpa using hn
    have c2 : w.cell? ⟨m, 2, none⟩ = some (.int .i64 (e : Int)) := h.1.cell 2
    have H := Lib.hid h
    clear h hn
    go_enter Tryd.func51, Tryd.ntmps51
    go_wp2_with fail
    go_ret
    exact ⟨rfl, H.out, Kept.refl _ _⟩
theorem mfixed_neg (k : Nat) (n : Int) (hn : n < 0) (h : MdIs w m A c b k 0) :
    Calls Tryd.prog 51 #[.pointer (some ⟨m, 0, none⟩), .int .i64 n] w fun en w' => en = .returned (.slice none 0 0) ∧ MdIs w' m A c b k 1 ∧ Kept (fun j => j = m) w w' := by
  have d1 : decide (n < 0) = true := by simpa using hn
  have H := Lib.hid h
  clear h hn
  go_enter Tryd.func51, Tryd.ntmps51
  go_wp2_with fail
  refine (mfail w m A c b k 0 1 1 (if_pos rfl) H.out).mono ?_
  rintro en w1 ⟨rfl, h1, k1⟩
  have c2 : w1.cell? ⟨m, 2, none⟩ = some (.int .i64 1) := h1.1.cell 2
  have H1 := Lib.hid h1
  clear h1
  go_wp2_with fail
  go_ret
  exact ⟨rfl, H1.out, k1⟩
theorem mfixed_short (k : Nat) (n : Int) (hn : ¬ n < 0) (r : Nat) (hr : b.length - k = r) (hlt : (r : Int) < n) (hl : b.length ≤ 1000000000) (h : MdIs w m A c b k 0) :
    Calls Tryd.prog 51 #[.pointer (some ⟨m, 0, none⟩), .int .i64 n] w fun en w' => en = .returned (.slice none 0 0) ∧ MdIs w' m A c b k 2 ∧ Kept (fun j => j = m) w w' := by
  have d1 : decide (n < 0) = false := by simpa using hn
  have d2 : decide ((r : Int) < n) = true := by simpa using hlt
  have c2 : w.cell? ⟨m, 2, none⟩ = some (.int .i64 0) := h.1.cell 2
  have H := Lib.hid h
  have Hr := Lib.hid hr
  clear h hn hr hlt
  go_enter Tryd.func51, Tryd.ntmps51
  go_wp2_with fail
  refine (mleft w m A c b k 0 r Hr.out H.out hl).mono ?_
  rintro en w1 ⟨rfl, k1⟩
  have H1 := Lib.hid (H.out.kept k1 (fun h => h) (fun _ _ _ h => h))
  go_wp2_with fail
  refine (mfail w1 m A c b k 0 2 2 (if_pos rfl) H1.out).mono ?_
  rintro en w2 ⟨rfl, h2, k2⟩
  have c2 : w2.cell? ⟨m, 2, none⟩ = some (.int .i64 2) := h2.1.cell 2
  have H2 := Lib.hid h2
  clear h2
  go_wp2_with fail
  go_ret
  exact ⟨rfl, H2.out, (k1.mono (G := fun j => j = m) (fun _ _ h => h.elim)).then k2 (fun _ _ h => h)⟩

set_option maxRecDepth 100000 in
set_option maxHeartbeats 2000000 in
theorem mfixed_ok (k n r : Nat) (hr : b.length - k = r) (hle : n ≤ r) (hl : b.length ≤ 1000000000) (h : MdIs w m A c b k 0) :
    Calls Tryd.prog 51 #[.pointer (some ⟨m, 0, none⟩), .int .i64 (n : Int)] w fun en w' => ∃ A2 c2, en = .returned (.slice A2 n c2) ∧ BytesAt w' A2 ((b.drop k).take n) ∧ MdIs w' m A c b (k + n) 0 ∧ Kept (fun j => j = m) w w' := by
  obtain ⟨i0, hi0, hz0, hz1, hz2⟩ := info_parts u8i
  have HI0 := Lib.hid (And.intro hi0 (And.intro hz0 (And.intro hz1 hz2)))
  have d1 : decide ((n : Int) < 0) = false := by simp
  have d2 : decide ((r : Int) < (n : Int)) = false := by simp; omega
  have d3 : ¬ (r < n) := by omega
  have c0 : w.cell? ⟨m, 0, none⟩ = some (.slice A b.length c) := h.1.cell 0
  have c1 : w.cell? ⟨m, 1, none⟩ = some (.int .i64 (k : Int)) := h.1.cell 1
  have c2 : w.cell? ⟨m, 2, none⟩ = some (.int .i64 0) := h.1.cell 2
  have hkn : k + n ≤ b.length := by have := h.2.2.1; omega
  have hbc := h.2.2.2.1
  obtain ⟨j, hj⟩ : ∃ j, j = k + n := ⟨_, rfl⟩
  have hw : wrap64 ((k : Int) + (n : Int)) = (j : Int) := by unfold wrap64; omega
  have hw2 : IntKind.i64.wrap ((k : Int) + (n : Int)) = (j : Int) := by rw [IntKind.wrap_i64]; omega
  have hkj : k ≤ j := by omega
  have hjc : j ≤ c := by omega
  obtain ⟨A3, hA3⟩ : ∃ A3, (if c = k then A else Option.map (fun x => x.add k) A) = A3 := ⟨_, rfl⟩
  have HA3 := Lib.hid (show cutA A c k = A3 from hA3)
  have H := Lib.hid h
  have Hr := Lib.hid hr
  have HL := Lib.hid (show ((b.drop k).take n).length = j - k from by simp; omega)
  have HK := Lib.hid (And.intro hkn hj)
  have HC := Lib.hid (And.intro hbc hl)
  clear h hr hi0 hz0 hz1 hz2 hkn hbc hl hle hj
  go_enter Tryd.func51, Tryd.ntmps51
  go_wp2_with fail
  refine (mleft w m A c b k 0 r Hr.out H.out HC.out.2).mono ?_
  rintro en w1 ⟨rfl, k1⟩
  have H1 := Lib.hid (H.out.kept k1 (fun h => h) (fun _ _ _ h => h))
  have KK := Lib.hid k1
  have a0 := k1.cell c0 (fun h => h)
  have a1 := k1.cell c1 (fun h => h)
  have a2 := k1.cell c2 (fun h => h)
  clear c0 c1 c2 k1
  go_wp2_with fail
  refine wp_region_held_drew (S := fun V => V.cell? ⟨m, 0, none⟩ = some (.slice A b.length c) ∧ V.cell? ⟨m, 1, none⟩ = some (.int .i64 (k : Int))) (by kernel_rfl) (by rw [World.cell?_drew, World.cell?_drew]; exact ⟨a0, a1⟩) (fun hHeld => ?_)
  refine wpAnyH_take (i := 1) (oi := _) (v := ?v1f) rfl (by kernel_rfl) (by kernel_rfl) (by kernel_rfl) (fun _ _ _ h => h) (Or.inl ⟨by rfl, ?hy1f⟩) (by assumption) ?rest1f
  case hy1f => (intro V hSw; (try dsimp only at hSw); go_simp) <;> with_reducible rfl
  simp only [Act.put, List.getElem_toArray, List.getElem_cons_succ, List.getElem_cons_zero, List.setIfInBounds_toArray, List.set_cons_zero, List.set_cons_succ]
  refine wpAnyH_take (i := 2) (oi := _) (v := ?v2f) rfl (by kernel_rfl) (by kernel_rfl) (by kernel_rfl) (fun _ _ _ h => h) (Or.inl ⟨by rfl, ?hy2f⟩) (by assumption) ?rest2f
  case hy2f => (intro V hSw; (try dsimp only at hSw); go_simp) <;> with_reducible rfl
  simp only [Act.put, List.getElem_toArray, List.getElem_cons_succ, List.getElem_cons_zero, List.setIfInBounds_toArray, List.set_cons_zero, List.set_cons_succ]
  refine wpAnyH_take (i := 3) (oi := _) (v := ?v3f) rfl (by kernel_rfl) (by kernel_rfl) (by kernel_rfl) (fun _ _ _ h => h) (Or.inl ⟨by rfl, ?hy3f⟩) (by assumption) ?rest3f
  case hy3f => (intro V hSw; (try dsimp only at hSw); go_simp) <;> with_reducible rfl
  simp only [Act.put, List.getElem_toArray, List.getElem_cons_succ, List.getElem_cons_zero, List.setIfInBounds_toArray, List.set_cons_zero, List.set_cons_succ]
  refine wpAnyH_take (i := 4) (oi := _) (v := ?v4f) rfl (by kernel_rfl) (by kernel_rfl) (by kernel_rfl) (fun _ _ _ h => h) (Or.inl ⟨by rfl, ?hy4f⟩) (by assumption) ?rest4f
  case hy4f => (intro V hSw; (try dsimp only at hSw); go_simp) <;> with_reducible rfl
  simp only [Act.put, List.getElem_toArray, List.getElem_cons_succ, List.getElem_cons_zero, List.setIfInBounds_toArray, List.set_cons_zero, List.set_cons_succ]
  refine wpAnyH_take (i := 5) (oi := _) (v := ?v5f) rfl (by kernel_rfl) (by kernel_rfl) (by kernel_rfl) (fun _ _ _ h => h) (Or.inl ⟨by rfl, ?hy5f⟩) (by assumption) ?rest5f
  case hy5f => (intro V hSw; (try dsimp only at hSw); go_simp) <;> with_reducible rfl
  simp only [Act.put, List.getElem_toArray, List.getElem_cons_succ, List.getElem_cons_zero, List.setIfInBounds_toArray, List.set_cons_zero, List.set_cons_succ]
  refine wpAnyH_take (i := 6) (oi := _) (v := ?v6f) rfl (by kernel_rfl) (by kernel_rfl) (by kernel_rfl) (fun _ _ _ h => h) (Or.inl ⟨by rfl, ?hy6f⟩) (by assumption) ?rest6f
  case hy6f => (intro V hSw; (try dsimp only at hSw); go_simp) <;> with_reducible rfl
  simp only [Act.put, List.getElem_toArray, List.getElem_cons_succ, List.getElem_cons_zero, List.setIfInBounds_toArray, List.set_cons_zero, List.set_cons_succ]
  refine wpAnyH_take (i := 7) (oi := _) (v := ?v7f) rfl (by kernel_rfl) (by kernel_rfl) (by kernel_rfl) (fun _ _ _ h => h) (Or.inl ⟨by rfl, ?hy7f⟩) (by assumption) ?rest7f
  case hy7f => (intro V hSw; (try dsimp only at hSw); go_simp) <;> with_reducible rfl
  simp only [Act.put, List.getElem_toArray, List.getElem_cons_succ, List.getElem_cons_zero, List.setIfInBounds_toArray, List.set_cons_zero, List.set_cons_succ]
  refine wpAnyH_take (i := 8) (oi := _) (v := ?v8f) rfl (by kernel_rfl) (by kernel_rfl) (by kernel_rfl) (fun _ _ _ h => h) (Or.inl ⟨by rfl, ?hy8f⟩) (by assumption) ?rest8f
  case hy8f => (intro V hSw; (try dsimp only at hSw); go_simp) <;> with_reducible rfl
  simp only [Act.put, List.getElem_toArray, List.getElem_cons_succ, List.getElem_cons_zero, List.setIfInBounds_toArray, List.set_cons_zero, List.set_cons_succ]
  refine wpAnyH_take (i := 9) (oi := _) (v := ?v9f) rfl (by kernel_rfl) (by kernel_rfl) (by kernel_rfl) (fun _ _ _ h => h) (Or.inl ⟨by rfl, ?hy9f⟩) (by assumption) ?rest9f
  case hy9f => (intro V hSw; (try dsimp only at hSw); go_simp) <;> with_reducible rfl
  simp only [Act.put, List.getElem_toArray, List.getElem_cons_succ, List.getElem_cons_zero, List.setIfInBounds_toArray, List.set_cons_zero, List.set_cons_succ]
  refine wpAnyH_take (i := 10) (oi := _) (v := ?v10f) rfl (by kernel_rfl) (by kernel_rfl) (by kernel_rfl) (fun _ _ _ h => h) (Or.inl ⟨by rfl, ?hy10f⟩) (by assumption) ?rest10f
  case hy10f => (intro V hSw; (try dsimp only at hSw); go_simp) <;> with_reducible rfl
  simp only [Act.put, List.getElem_toArray, List.getElem_cons_succ, List.getElem_cons_zero, List.setIfInBounds_toArray, List.set_cons_zero, List.set_cons_succ]
  refine wpAnyH_take (i := 11) (oi := _) (v := ?v11f) rfl (by kernel_rfl) (by kernel_rfl) (by kernel_rfl) (fun _ _ _ h => h) (Or.inl ⟨by rfl, ?hy11f⟩) (by assumption) ?rest11f
  case hy11f => (intro V hSw; (try dsimp only at hSw); go_simp) <;> with_reducible rfl
  simp only [Act.put, List.getElem_toArray, List.getElem_cons_succ, List.getElem_cons_zero, List.setIfInBounds_toArray, List.set_cons_zero, List.set_cons_succ]
  refine wpAnyH_take (i := 12) (oi := _) (v := ?v12f) rfl (by kernel_rfl) (by kernel_rfl) (by kernel_rfl) (fun _ _ _ h => h) (Or.inl ⟨by rfl, ?hy12f⟩) (by assumption) ?rest12f
  case hy12f => (intro V hSw; (try dsimp only at hSw); go_simp) <;> with_reducible rfl
  simp only [Act.put, List.getElem_toArray, List.getElem_cons_succ, List.getElem_cons_zero, List.setIfInBounds_toArray, List.set_cons_zero, List.set_cons_succ]
  refine wpAnyH_take (i := 13) (oi := _) (v := ?v13f) rfl (by kernel_rfl) (by kernel_rfl) (by kernel_rfl) (fun _ _ _ h => h) (Or.inl ⟨by rfl, ?hy13f⟩) (by assumption) ?rest13f
  case hy13f => (intro V hSw; (try dsimp only at hSw); go_simp) <;> with_reducible rfl
  simp only [Act.put, List.getElem_toArray, List.getElem_cons_succ, List.getElem_cons_zero, List.setIfInBounds_toArray, List.set_cons_zero, List.set_cons_succ]
  refine wpAnyH_take (i := 14) (oi := _) (v := ?v14f) rfl (by kernel_rfl) (by kernel_rfl) (by kernel_rfl) (fun _ _ _ h => h) (Or.inl ⟨by rfl, ?hy14f⟩) (by assumption) ?rest14f
  case hy14f => (intro V hSw; (try dsimp only at hSw); go_simp) <;> with_reducible rfl
  simp only [Act.put, List.getElem_toArray, List.getElem_cons_succ, List.getElem_cons_zero, List.setIfInBounds_toArray, List.set_cons_zero, List.set_cons_succ]
  refine wpAnyH_take (i := 15) (oi := _) (v := ?v15f) rfl (by kernel_rfl) (by kernel_rfl) (by kernel_rfl) (fun _ _ _ h => h) (Or.inl ⟨by rfl, ?hy15f⟩) (by assumption) ?rest15f
  case hy15f => (intro V hSw; (try dsimp only at hSw); go_simp) <;> with_reducible rfl
  simp only [Act.put, List.getElem_toArray, List.getElem_cons_succ, List.getElem_cons_zero, List.setIfInBounds_toArray, List.set_cons_zero, List.set_cons_succ]
  refine wpAnyH_ready (rs := [0]) (by kernel_rfl) (by simp) ?_
  refine AllReadyH.cons (o := _) rfl (fun K hK => ?_) AllReadyH.nil
  rw [if_pos (by rfl)]
  refine wp_bslice0 27 rfl _ (run_bytes_none w1.drew) ?_
  obtain ⟨V1, hV1⟩ : ∃ z, z = w1.drew.alloc (.cells #[] 5) := ⟨_, rfl⟩
  have kV : Kept (fun _ => False) w1.drew V1 := by rw [hV1]; exact (Kept.refl (fun _ => False) w1.drew).alloc _
  have hzV : V1.heap.size = w1.drew.heap.size + 1 := by rw [hV1]; simp
  have hoV : V1.ownsRow w1.drew.heap.size 5 1 (.slice (some ⟨w1.drew.heap.size, 0, none⟩) 0 0) 0 [] := by
    rw [hV1]
    exact World.ownsRow_lit (base := w1.drew.heap.size) (e := 5) (size := 1) w1.drew #[] 0 (Nat.le_refl _) (by decide) rfl
  rw [← hV1]
  have KV := Lib.hid (And.intro kV hzV)
  have HV := Lib.hid hoV
  clear hV1 kV hzV hoV
  refine hK.out _ _ ⟨KV.out.1.cell hHeld.1 (fun h => h), KV.out.1.cell hHeld.2 (fun h => h)⟩ (fun hHeld => ?_)
  clear hK K
  try simp only [Act.put, List.getElem_toArray, List.getElem_cons_succ, List.getElem_cons_zero, List.setIfInBounds_toArray, List.set_cons_zero, List.set_cons_succ]
  refine wpAnyH_ready (rs := [16]) (by kernel_rfl) (by simp) ?_
  refine AllReadyH.cons (o := _) rfl (fun K hK => ?_) AllReadyH.nil
  rw [if_pos (by rfl)]
  refine wp_append_bytes V1 _ _ 27 rfl w1.drew.heap.size 5 i0 (.int .u8 0) Tryd.underlying27 HI0.out.1 HI0.out.2.1 HI0.out.2.2.1 HI0.out.2.2.2 rfl _ 0 [] rfl HV.out A3 (c - k) ((b.drop k).take n) (by rw [HL.out]; rfl) ((((by rw [← HA3.out]; exact H1.out.2.1.drop HC.out.1 k : BytesAt w1 A3 (b.drop k)).take n).kept' (Kept.refl (fun _ => False) w1).drew (fun _ _ _ h => h)).kept' KV.out.1 (fun _ _ _ h => h)) (by rw [HL.out]; have := HC.out; have := HK.out; omega) (by have := KV.out.2; omega) ?_
  intro A2 cap2 w2 hown2 hk2 hat2
  rw [HL.out, Nat.zero_add] at hown2 ⊢
  have K2 : Kept (fun _ => False) w1.drew w2 := KV.out.1.follow (Kept.of_grown (F := fun j => j = w1.drew.heap.size) hk2 (fun g e => (Option.some.inj e).symm)) (fun k hk e => by omega)
  have HO2 := Lib.hid (own_bytesAt hown2)
  have HLo := Lib.hid (own_low hown2)
  have HK2 := Lib.hid K2
  refine hK.out _ _ ⟨K2.cell a0 (fun h => h), K2.cell a1 (fun h => h)⟩ (fun _ => ?_)
  have e0 := K2.cell a0 (fun h => h)
  have e1 := K2.cell a1 (fun h => h)
  clear hown2 hk2 hat2 K2 hK K hHeld
  try simp only [Act.put, List.getElem_toArray, List.getElem_cons_succ, List.getElem_cons_zero, List.setIfInBounds_toArray, List.set_cons_zero, List.set_cons_succ]
  refine wpAnyH_ready (rs := [17]) (by kernel_rfl) (by simp) ?_
  refine AllReadyH.cons (o := _) rfl (fun K hK => ?_) AllReadyH.nil
  go_simp
  refine hK.out _ _ ⟨e0, e1⟩ (fun _ => ?_)
  clear hK K
  try simp only [Act.put, List.getElem_toArray, List.getElem_cons_succ, List.getElem_cons_zero, List.setIfInBounds_toArray, List.set_cons_zero, List.set_cons_succ]
  refine wpAnyH_done (by kernel_rfl) ?_ _
  have HM2 := Lib.hid ((H1.out.kept (Kept.refl (fun _ => False) w1).drew (fun h => h) (fun _ _ _ h => h)).kept HK2.out (fun h => h) (fun _ _ _ h => h))
  have f1 := HM2.out.1.frozen 1
  have hjn : j - k = n := by have := HK.out; omega
  have HJ := Lib.hid (HK.out.2)
  rw [hjn]
  clear hjn hA3 hw hw2 hkj hjc
  go_wp2_with fail
  go_ret
  refine ⟨A2, cap2, rfl, ?_, by rw [show wrap64 ((k : Int) + (n : Int)) = ((k + n : Nat) : Int) from by unfold wrap64; have := HK.out.1; have := HC.out.2; omega]; exact HM2.out.step (k + n) HK.out.1, ?_⟩
  · exact HO2.out.kept' ((Kept.refl (fun j => j = m) w2).set (p := ⟨m, 1, none⟩) (.inl rfl) _) (fun ad e _ h => by have h1 := HLo.out ad e; have h2 := H1.out.1.lt; have h3 : w1.drew.heap.size = w1.heap.size := rfl; have h4 : ad.block = m := h; omega)
  · exact (((KK.out.mono (G := fun j => j = m) (fun _ _ h => h.elim)).drew).follow HK2.out (fun _ _ h => h.elim)).set (p := ⟨m, 1, none⟩) (.inl rfl) _

theorem mfixed_is (e : Nat) (l : List UInt8) (n : Int) (x : List UInt8) (e' : Nat) (l' : List UInt8) (hp : pFixed n e l = (x, e', l')) (hl : b.length ≤ 1000000000) (h : MdEnd w m A c b e l) :
    Calls Tryd.prog 51 #[.pointer (some ⟨m, 0, none⟩), .int .i64 n] w fun en w' => ∃ A2 c2, en = .returned (.slice A2 x.length c2) ∧ BytesAt w' A2 x ∧ MdEnd w' m A c b e' l' ∧ Kept (fun j => j = m) w w' := by
  obtain ⟨k, hm, hd⟩ := h
  by_cases he : e = 0
  · subst he
    have hd := hd rfl
    subst hd
    unfold pFixed at hp
    rw [if_neg (by simp)] at hp
    by_cases hn : n < 0
    · rw [if_pos hn] at hp
      simp only [Prod.mk.injEq] at hp
      obtain ⟨rfl, rfl, rfl⟩ := hp
      exact (mfixed_neg w m A c b k n hn hm).mono fun _ _ ⟨h1, h2, h3⟩ => ⟨none, 0, h1, BytesAt.nil _ _, ⟨k, h2, fun h => absurd h (by omega)⟩, h3⟩
    · rw [if_neg hn] at hp
      by_cases hs : ((b.drop k).length : Int) < n
      · rw [if_pos hs] at hp
        simp only [Prod.mk.injEq] at hp
        obtain ⟨rfl, rfl, rfl⟩ := hp
        exact (mfixed_short w m A c b k n hn (b.length - k) rfl (by rw [List.length_drop] at hs; omega) hl hm).mono fun _ _ ⟨h1, h2, h3⟩ => ⟨none, 0, h1, BytesAt.nil _ _, ⟨k, h2, fun h => absurd h (by omega)⟩, h3⟩
      · rw [if_neg hs] at hp
        obtain ⟨wd, rfl⟩ := Int.eq_ofNat_of_zero_le (show 0 ≤ n by omega)
        rw [Int.toNat_natCast] at hp
        rw [List.length_drop] at hs
        simp only [Prod.mk.injEq] at hp
        obtain ⟨rfl, rfl, rfl⟩ := hp
        refine (mfixed_ok w m A c b k wd (b.length - k) rfl (by omega) hl hm).mono fun _ _ ⟨A2, c2, h1, h2, h3, h4⟩ => ⟨A2, c2, ?_, h2, ⟨k + wd, h3, fun _ => by rw [List.drop_drop]⟩, h4⟩
        rw [h1, show ((b.drop k).take wd).length = wd from by simp; omega]
  · unfold pFixed at hp
    rw [if_pos he] at hp
    simp only [Prod.mk.injEq] at hp
    obtain ⟨rfl, rfl, rfl⟩ := hp
    exact (mfixed_err w m A c b e k n he hm).mono fun _ _ ⟨h1, h2, h3⟩ => ⟨none, 0, h1, BytesAt.nil _ _, ⟨k, h2, fun h => absurd h he⟩, h3⟩

theorem mbytes_is (e : Nat) (l : List UInt8) (most : Int) (x : List UInt8) (e' : Nat) (l' : List UInt8) (hp : pBytes most e l = (x, e', l')) (hl : b.length ≤ 1000000000) (h : MdEnd w m A c b e l) :
    Calls Tryd.prog 52 #[.pointer (some ⟨m, 0, none⟩), .int .i64 most] w fun en w' => ∃ A2 c2, en = .returned (.slice A2 x.length c2) ∧ BytesAt w' A2 x ∧ MdEnd w' m A c b e' l' ∧ Kept (fun j => j = m) w w' := by
  obtain ⟨n1, e1, l1, hq⟩ : ∃ n1 e1 l1, pNum 2 e l = (n1, e1, l1) := ⟨_, _, _, rfl⟩
  unfold pBytes pMost at hp
  rw [hq] at hp
  simp only at hp
  have Hq := Lib.hid hq
  have H := Lib.hid h
  have Hp := Lib.hid hp
  clear hq h hp
  go_enter Tryd.func52, Tryd.ntmps52
  go_wp2_with fail
  refine (mnum_is w m A c b e l 2 n1 e1 l1 Hq.out hl H.out).mono ?_
  rintro en w1 ⟨rfl, h1, k1⟩
  obtain ⟨k, hm, hd⟩ := h1
  have c2 : w1.cell? ⟨m, 2, none⟩ = some (.int .i64 (e1 : Int)) := hm.1.cell 2
  by_cases h0 : e1 = 0
  · have b0 : ((e1 : Int) == 0) = true := by rw [h0]; rfl
    by_cases h1 : most < (n1 : Int)
    · have b1 : decide (most < (n1 : Int)) = true := by simpa using h1
      have HM := Lib.hid hm
      have H0 := Lib.hid (And.intro h0 h1)
      clear hm hd h0 h1
      go_wp2_with fail
      refine (mfail w1 m A c b k e1 1 1 (if_pos H0.out.1) HM.out).mono ?_
      rintro en w2 ⟨rfl, h2, k2⟩
      go_wp2_with fail
      refine (mfixed_is w2 m A c b 1 l1 n1 x e' l' (by have := Hp.out; rwa [if_pos H0.out] at this) hl ⟨k, h2, fun h => absurd h (by omega)⟩).mono ?_
      rintro en w3 ⟨A2, c2, rfl, hx3, h3, k3⟩
      go_wp2_with fail
      go_ret
      exact ⟨A2, c2, rfl, hx3, h3, (k1.then k2 (fun _ _ h => h)).then k3 (fun _ _ h => h)⟩
    · have b1 : decide (most < (n1 : Int)) = false := by simpa using h1
      have HM := Lib.hid (show MdEnd w1 m A c b e1 l1 from ⟨k, hm, hd⟩)
      have H0 := Lib.hid h1
      clear hm hd h0 h1
      go_wp2_with fail
      refine (mfixed_is w1 m A c b e1 l1 n1 x e' l' (by have := Hp.out; rwa [if_neg (fun h => absurd h.2 (by have := H0.out; omega))] at this) hl HM.out).mono ?_
      rintro en w3 ⟨A2, c2, rfl, hx3, h3, k3⟩
      go_wp2_with fail
      go_ret
      exact ⟨A2, c2, rfl, hx3, h3, k1.then k3 (fun _ _ h => h)⟩
  · have b0 : ((e1 : Int) == 0) = false := by simp; omega
    have HM := Lib.hid (show MdEnd w1 m A c b e1 l1 from ⟨k, hm, hd⟩)
    have H0 := Lib.hid h0
    clear hm hd h0
    go_wp2_with fail
    refine (mfixed_is w1 m A c b e1 l1 n1 x e' l' (by have := Hp.out; rwa [if_neg (fun h => H0.out h.1)] at this) hl HM.out).mono ?_
    rintro en w3 ⟨A2, c2, rfl, hx3, h3, k3⟩
    go_wp2_with fail
    go_ret
    exact ⟨A2, c2, rfl, hx3, h3, k1.then k3 (fun _ _ h => h)⟩
end
end Go.Proofs.YtmmjpkijnecmcaaDoor
