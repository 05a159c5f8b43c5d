/-
  GuardOpens, walked.
-/
import Derived.Test.YthkjlgjbjjjohaaGreatDoorGdM
namespace Go.Proofs.YthkjlgjbjjjohaaGreatDoor
open Go.RowKit Go.Maps

theorem read_wrL {z : DkS} {i n : Nat} (r : List Int) (hw : z.wr.length = n) (hi : i < n) (j : Nat) : readS (wrS z i r) j = if j = i then r else readS z j := by
  have hwr : (wrS z i r).wr = z.wr.set i (some r) := rfl
  by_cases h : j = i
  · rw [if_pos h, readS, hwr, h, List.getElem?_set_self (by omega)]; rfl
  · rw [if_neg h, readS, hwr, List.getElem?_set_ne (fun e => h e.symm)]; rfl
theorem read_syncL {z : DkS} {j : Nat} (hj : j < z.syn.length) : readS (syncS z) j = readS z j := by
  have hl : j < (syncS z).syn.length := by rw [show (syncS z).syn.length = z.syn.length from mgS_length _ _ _]; exact hj
  have e : (syncS z).wr[j]?.join = none := by
    show (List.replicate _ (none : Option (List Int)))[j]?.join = none
    rw [List.getElem?_replicate]; split <;> rfl
  rw [readS, e, Option.getD_none, List.getD, List.getElem?_eq_getElem hl, Option.getD_some]
  exact mgS_at hl
theorem read_putL {z : DkS} {n : Nat} (h : Lasts z n) (hn : 2 ≤ n) (hw : z.wr.length = n) (cn : Nat) (l : List UInt8) (j : Nat) (hj : j < 2) : readS (putZ z 0 cn l) j = if j = (cn + 1) % 2 then slotL (cn + 1) l else readS z j := by
  obtain ⟨h1, h2, h3⟩ := h
  obtain ⟨i, hi⟩ : ∃ i : Nat, (cn + 1) % 2 = i := ⟨_, rfl⟩
  have hi2 : i < z.syn.length := by omega
  have e0 : wE z (i : Int) = 0 := wE_ok hi2 h1 (by omega)
  have e1 : wS z (i : Int) (slotL (cn + 1) l) = wrS z i (slotL (cn + 1) l) := wS_ok _ hi2 h1 h2
  have e3 : sS (wrS z i (slotL (cn + 1) l)) = syncS (wrS z i (slotL (cn + 1) l)) := sS_ok h1 h2
  rw [putZ, hi, Int.zero_add, e0, e1, e3, if_neg (by simp), read_syncL (z := wrS z i (slotL (cn + 1) l)) (show j < z.syn.length by omega), read_wrL _ hw (by omega)]
theorem z4_start : Lasts (newS 4) 4 := ⟨rfl, rfl, rfl⟩
theorem z4_fmt : (fmtZ (newS 4) 0).wr.length = 4 ∧ readS (fmtZ (newS 4) 0) 0 = slotL 0 [] := ⟨by kernel_rfl, by kernel_rfl⟩
def opB (l : List UInt8) (k : Nat) : List UInt8 := if k = 1 then slotB 1 l else slotB 0 []
theorem op_rows (l : List UInt8) (k : Nat) (hk : k < 2) : (opB l k).length = 64 ∧ readS (putZ (fmtZ (newS 4) 0) 0 0 l) k = intsB (opB l k) := by
  rw [read_putL (lasts_fmt z4_start (base := 0) (by omega)).2 (by omega) z4_fmt.1 0 l k hk]
  have h : k = 0 ∨ k = 1 := by omega
  rcases h with rfl | rfl
  · rw [if_neg (by omega), z4_fmt.2, opB, if_neg (by omega), slotB_ints]; exact ⟨slotB_len _ _, rfl⟩
  · rw [if_pos rfl, opB, if_pos rfl, slotB_ints]; exact ⟨slotB_len _ _, rfl⟩
theorem op_sel {l : List UInt8} (h : l.length ≤ 31) : selK (opB l) 2 = some (1, l) :=
  sel_two (B := slotB 0 []) (by omega) h (.inr ⟨[], by simp, by omega, rfl⟩) rfl rfl
theorem no_rows (k : Nat) (hk : k < 2) : (zeroB).length = 64 ∧ readS (newS 4) ((0 : Int).toNat + k) = intsB zeroB := by
  have h : k = 0 ∨ k = 1 := by omega
  rcases h with rfl | rfl
  · exact ⟨rfl, by kernel_rfl⟩
  · exact ⟨rfl, by kernel_rfl⟩
theorem no_sel : selK (fun _ => zeroB) 2 = none := by
  show selStep 1 (parseS zeroB) (selStep 0 (parseS zeroB) none) = none
  rw [parse_zero]; rfl
/-- What reading any bytes as a state answers, in the program and the document. -/
theorem reads_any (l : List UInt8) (hl : l.length ≤ 1000) : ∃ (t : St) (k : Nat), (k = 0 → t.ok) ∧
    (∀ (V : World) (B : Nat) (E : Nat → Addr) (A : Option Addr) (c : Nat), B ≤ V.heap.size → ErrEnv V B E → BytesAt V A l → Calls Tryz.prog 37 #[.slice A l.length c] V fun e w' => e = .returned (.tuple #[t.val, evOf E k]) ∧ V.grownBy w' none) ∧
    (∀ (V : World) (A : Option Addr) (c : Nat), l.length ≤ c → BytesAt V A l → Calls Tryz.prog 21 #[.slice A l.length c] V fun e w' => e = .returned (.tuple #[stV t.e t.v t.l t.p t.f, .int .i64 (k : Int)]) ∧ V.grownBy w' none) := by
  obtain ⟨⟨n1, e1, l1⟩, h1⟩ : ∃ r, pNum 4 0 l = r := ⟨_, rfl⟩
  obtain ⟨⟨n2, e2, l2⟩, h2⟩ : ∃ r, pNum 6 e1 l1 = r := ⟨_, rfl⟩
  obtain ⟨⟨n3, e3, l3⟩, h3⟩ : ∃ r, pNum 6 e2 l2 = r := ⟨_, rfl⟩
  obtain ⟨⟨n4, e4, l4⟩, h4⟩ : ∃ r, pNum 6 e3 l3 = r := ⟨_, rfl⟩
  obtain ⟨⟨n5, e5, l5⟩, h5⟩ : ∃ r, pNum 1 e4 l4 = r := ⟨_, rfl⟩
  obtain ⟨d, h6⟩ : ∃ d, pDone e5 l5 = d := ⟨_, rfl⟩
  have hV : ∃ t : St, rdV d n1 n2 n3 n4 n5 = stC t.e t.v t.l t.p t.f ∧ (rdE d n1 n2 n3 n4 n5 = 0 → t.ok) := by
    by_cases h0 : rdE d n1 n2 n3 n4 n5 = 0
    · refine ⟨⟨n1, n2, n3, n4, n5⟩, by rw [rdV, if_pos h0], fun _ => ?_⟩
      unfold rdE at h0
      split at h0
      · omega
      · split at h0
        · rename_i h; exact h
        · omega
    · exact ⟨⟨0, 0, 0, 0, 0⟩, by rw [rdV, if_neg h0], fun h => absurd h h0⟩
  obtain ⟨t, ht, hok⟩ := hV
  refine ⟨t, rdE d n1 n2 n3 n4 n5, hok, fun V B E A c hB hE hb => ?_, fun V A c hc hb => ?_⟩
  · exact read_is V B hB E hE A l.length c l rfl hb hl n1 e1 l1 h1 n2 e2 l2 h2 n3 e3 l3 h3 n4 e4 l4 h4 n5 e5 l5 h5 d h6 _ ht _ rfl
  · exact rread_is V A l.length c l rfl hb hl hc n1 e1 l1 h1 n2 e2 l2 h2 n3 e3 l3 h3 n4 e4 l4 h4 n5 e5 l5 h5 d h6 _ ht _ rfl
theorem GdIs.keptD {w0 w w' : World} {P : GdP} {base : Int} {seed : List Int} {z : DkS} {cn : Nat} {rc : List UInt8} {st : St} (h : GdIs w0 w P base seed z cn rc st) (hd : Dsk w0 w' P.d P.b P.m z) (hk : Kept (fun j => j = P.d ∨ j = P.b ∨ j = P.m) w w') : GdIs w0 w' P base seed z cn rc st := by
  have h0 := h.ne
  have hs := h.sl.1
  simp only [GdP.F] at h0
  exact ⟨hd, h.sl.kept hk, h.gd.kept hk (by omega), h.ky.kept hk (by omega), h.lv.kept hk (by omega), h.far.kept hk (by omega), h.ne, h.low⟩
theorem ErrEnv.moreO {w : World} {B B' : Nat} {E : Nat → Addr} (h : ErrEnv w B E) (hB : B ≤ B') : ErrEnv w B' E := ⟨fun i hi => ⟨(h.var i hi).1, Nat.lt_of_lt_of_le (h.var i hi).2 hB⟩, fun i hi => ⟨Nat.lt_of_lt_of_le (h.row i hi).1 hB, (h.row i hi).2⟩, h.inj⟩
set_option maxRecDepth 100000 in
set_option maxHeartbeats 4000000 in
theorem opens_any (w : World) (hR : Rounds w) (E : Nat → Addr) (he : ErrEnv w w.heap.size E) (A : Option Addr) (n c : Nat) (l : List UInt8) (hn : l.length = n) (hnc : n ≤ c) (hb : BytesAt w A l) (ep : Int) (hep : (Lit.int .i64 ep).wf = true) :
    Calls Tryz.prog 4 #[.slice A n c, .int .i64 ep] w fun e w' => e = .returned (.bool true) ∧ w.grownBy w' none := by
  have hal := alive_is w hR E he
  have HX := Lib.hid (And.intro hR (And.intro he (And.intro hn (And.intro hnc (And.intro hb (wf_in hep))))))
  have HA := Lib.hid hal
  clear hR he hn hnc hb hal hep
  go_enter Tryz.func4, Tryz.ntmps4
  go_wp2_with fail
  refine HA.out.mono ?_
  rintro e w2 ⟨rfl, g2⟩
  have H2 := Lib.hid g2
  have HE2 := Lib.hid (And.intro (HX.out.1.grown H2.out (by simp)) ((HX.out.2.1.grown H2.out (fun _ e => by cases e)).moreO H2.out.size))
  have HB2 := Lib.hid (And.intro (HX.out.2.2.2.2.1.grown H2.out (fun _ _ => by simp)) (show ∀ ad, A = some ad → l ≠ [] → ad.block < w2.heap.size from fun ad e hne => Nat.lt_of_lt_of_le (HX.out.2.2.2.2.1.lt ad e hne) H2.out.size))
  clear g2 HA
  by_cases h31 : 31 < n
  · have d1 : decide ((31 : Int) < (n : Int)) = true := by simp; omega
    go_wp2_with fail
    go_ret
    exact ⟨rfl, H2.out⟩
  have d1 : decide ((31 : Int) < (n : Int)) = false := by simp; omega
  have hn31 : n ≤ 31 := by omega
  clear h31
  have HNE := Lib.hid (dsk_new w2 w2 (Kept.refl _ _) 4 (by omega) (E 0) (HE2.out.2.var 0 (by omega)))
  go_wp2_with fail
  refine HNE.out.mono ?_
  rintro e w3 ⟨g3, d, b, m, rfl, hd3, hdl⟩
  have H3 := Lib.hid (And.intro hd3 (And.intro g3 hdl))
  clear hd3 g3 hdl HNE
  have hB9 := lit_dg 9
  obtain ⟨d9, hd9⟩ : ∃ D, dgO 9 = D := ⟨_, rfl⟩
  have HDG := Lib.hid (show isDig d9 by rw [← hd9]; exact dgO_dig (by omega))
  rw [hd9] at hB9
  obtain ⟨D9, hD9⟩ : ∃ D, arrV .u8 d9 = D := ⟨_, rfl⟩
  rw [hD9] at hB9
  have HB := Lib.hid hB9
  have HD := Lib.hid hD9
  clear hd9 hD9 hB9
  go_wp2_with fail
  rw [HB.out]
  refine (new_is w3 (HE2.out.1.grown H3.out.2.1 (by simp)) d9 HDG.out D9 HD.out.symm).mono ?_
  rintro e w4 ⟨kb, lb, cap, rfl, hkb, hlb, hcap, hky, hlv, hkl, g4⟩
  rw [← HD.out] at hky
  have hlt1 : d < w3.heap.size ∧ b < w3.heap.size ∧ m < w3.heap.size := by
    obtain ⟨D, hD, _⟩ := H3.out.1.1.2.2.1
    exact ⟨H3.out.1.1.1.lt, H3.out.1.1.2.1.lt, hD.lt⟩
  have H4 := Lib.hid (And.intro (H3.out.1.grown g4) (And.intro hky (And.intro hlv (And.intro (digs_lt hlv) (And.intro (show (kb ≠ d ∧ kb ≠ b ∧ kb ≠ m) ∧ (lb ≠ d ∧ lb ≠ b ∧ lb ≠ m) by omega) (show kb < w4.heap.size from hky.lt))))))
  clear hkb hlb hcap hky hlv hkl g4 hlt1
  have HO := Lib.hid (gopen_none (base := 0) H4.out.1 HE2.out.1 E HE2.out.2 rfl (show 0 ≤ (0 : Int) ∧ (0 : Int) + 2 ≤ (((newS 4).syn.length : Nat) : Int) from ⟨by omega, by show (0 : Int) + 2 ≤ ((4 : Nat) : Int); omega⟩) (fun _ => zeroB) (fun k hk => no_rows k hk) no_sel kb)
  go_wp2_with fail
  refine HO.out.mono ?_
  clear HO
  rintro e w5 ⟨rfl, g5⟩
  have H5 := Lib.hid (And.intro (H4.out.1.grown g5) (And.intro (H4.out.2.1.grown g5) (And.intro (H4.out.2.2.1.grown g5) (And.intro (Nat.lt_of_lt_of_le H4.out.2.2.2.1 g5.size) (Nat.lt_of_lt_of_le H4.out.2.2.2.2.2 g5.size)))))
  clear g5
  go_wp2_with fail
  refine (num_err w5 w2.heap.size E 6 (by omega) (HE2.out.2.below H5.out.1.below (Nat.le_refl _))).mono ?_
  rintro e w6 ⟨rfl, g6⟩
  have H6 := Lib.hid (And.intro (H5.out.1.grown g6) (And.intro (H5.out.2.1.grown g6) (And.intro (H5.out.2.2.1.grown g6) (And.intro (Nat.lt_of_lt_of_le H5.out.2.2.2.1 g6.size) (Nat.lt_of_lt_of_le H5.out.2.2.2.2 g6.size)))))
  clear g6
  have hfm := lasts_fmt z4_start (base := 0) (by omega)
  have HF := Lib.hid (format_any w2 w6 d b m _ H6.out.1 HE2.out.1 (E 0) (E 5) (HE2.out.2.var 0 (by omega)) (HE2.out.2.var 5 (by omega)) 0)
  have HFM := Lib.hid hfm
  clear hfm
  go_wp2_with fail
  refine HF.out.mono ?_
  clear HF
  rintro e w7 ⟨⟨hbad, _⟩ | ⟨_, hd7, ⟨hne, _⟩ | ⟨_, s, rfl, hsl, hs⟩⟩, hk7⟩
  · exact absurd (show 0 ≤ (0 : Int) ∧ (0 : Int) + 2 ≤ ((4 : Nat) : Int) by omega) hbad
  · exact absurd HFM.out.1 hne
  have hnf : ¬ (kb = d ∨ kb = b ∨ kb = m) ∧ ¬ (lb = d ∨ lb = b ∨ lb = m) := by have := H4.out.2.2.2.2.1; omega
  have hnl : kb < w6.heap.size ∧ lb < w6.heap.size := ⟨H6.out.2.2.2.2, H6.out.2.2.2.1⟩
  have H7 := Lib.hid (And.intro hd7 (And.intro (H6.out.2.1.kept hk7 hnf.1) (And.intro (H6.out.2.2.1.kept hk7 hnf.2) (And.intro (Nat.lt_of_lt_of_le H6.out.2.2.2.1 hk7.size) (And.intro hsl (And.intro (show kb ≠ s ∧ lb ≠ s by omega) (show w2.heap.size ≤ s by have := H6.out.1.2.1.size; omega)))))))
  have HNF := Lib.hid hnf
  clear hd7 hk7 hsl hs hnf hnl
  go_wp2_with fail
  have hbw : BytesAt w7 A l := HB2.out.1.low H7.out.1.2.1 (fun j h => h)
  have HP := Lib.hid (sput_any w2 w7 d b m s _ 0 0 [] H7.out.1 H7.out.2.2.2.2.1 HE2.out.1 A n c l HX.out.2.2.1 hbw (E 0) (E 5) (E 7) (HE2.out.2.var 0 (by omega)) (HE2.out.2.var 5 (by omega)) H7.out.2.2.2.2.2.2 (fun ad e hne => by have h1 := HB2.out.2 ad e hne; have h2 := H3.out.1.2.2; have h3 := H7.out.2.2.2.2.2.2; omega) (HE2.out.2.var 7 (by omega)) (by omega) (by omega))
  clear hbw
  refine HP.out.mono ?_
  clear HP
  have hl31 : l.length ≤ 31 := by have := HX.out.2.2.1; omega
  have HL := Lib.hid hl31
  have HPZ := Lib.hid (lasts_put HFM.out.2 (base := 0) (by omega) 0 l)
  rintro e w8 ⟨⟨hbad, _⟩ | ⟨_, hbad, _⟩ | ⟨_, _, hd8, ⟨hne, _⟩ | ⟨_, rfl, hsl⟩⟩, hk8, _⟩
  · omega
  · omega
  · exact absurd HPZ.out.1 hne
  have hnf8 : ¬ (kb = d ∨ kb = b ∨ kb = m ∨ kb = s) ∧ ¬ (lb = d ∨ lb = b ∨ lb = m ∨ lb = s) := by have := HNF.out; have := H7.out.2.2.2.2.2.1; omega
  have H8 := Lib.hid (And.intro hd8 (And.intro (H7.out.2.1.kept hk8 hnf8.1) (And.intro (H7.out.2.2.1.kept hk8 hnf8.2) (Nat.lt_of_lt_of_le H7.out.2.2.2.1 hk8.size))))
  clear hd8 hsl hk8 hnf8 hl31
  obtain ⟨t, k, hok, hrd, hrf⟩ := reads_any l (by have := HL.out; omega)
  have HT := Lib.hid (And.intro hok (And.intro hrd hrf))
  clear hok hrd hrf
  have HO := Lib.hid (gopen_some (base := 0) H8.out.1 HE2.out.1 E HE2.out.2 HPZ.out.2.1 (show 0 ≤ (0 : Int) ∧ (0 : Int) + 2 ≤ _ by rw [HPZ.out.2.2.2]; omega) (opB l) (fun j hj => by rw [show (0 : Int).toNat + j = j by simp]; exact op_rows l j hj) 1 l (op_sel HL.out) (by have := HL.out; omega) H8.out.2.1 H8.out.2.2.1 H8.out.2.2.2 H4.out.2.2.2.2.1 t k (fun V A' c' hV hE hb => HT.out.2.1 V w2.heap.size E A' c' hV hE hb))
  go_wp2_with fail
  refine HO.out.mono ?_
  clear HO
  rintro e w9 ⟨g9, hor⟩
  have H9 := Lib.hid (And.intro (H8.out.1.grown g9) (And.intro (H8.out.2.1.grown g9) (And.intro (H8.out.2.2.1.grown g9) (Nat.lt_of_lt_of_le H8.out.2.2.2 g9.size))))
  clear g9
  have hbw : BytesAt w9 A l := HB2.out.1.low H9.out.1.2.1 (fun j h => h)
  have HRR := Lib.hid (HT.out.2.2 w9 A c (by have := HX.out.2.2.1; have := HX.out.2.2.2.1; omega) hbw)
  rw [HX.out.2.2.1] at HRR
  clear hbw
  rcases hor with ⟨hk0, rfl⟩ | ⟨hk0, g, s', rfl, _, _, hG⟩
  · have kf : ((k : Int) == 0) = false := by simp; omega
    have kf2 : ((k : Int) != 0) = true := by simp; omega
    have kf3 : ¬ k = 0 := hk0
    have kf4 : ¬ (k : Int) = 0 := by omega
    have HK := Lib.hid hk0
    clear hk0
    go_wp2_with fail
    refine HRR.out.mono ?_
    clear HRR
    rintro e wA ⟨rfl, gA⟩
    have gB := World.grownBy_alloc wA (.cells (stC t.e t.v t.l t.p t.f) 38) none
    have bB := Blk.new wA 38 (stC t.e t.v t.l t.p t.f)
    obtain ⟨qB, hqB⟩ : ∃ qB, wA.heap.size = qB := ⟨_, rfl⟩
    obtain ⟨wB, hwB⟩ : ∃ wB, wA.alloc (.cells (stC t.e t.v t.l t.p t.f) 38) = wB := ⟨_, rfl⟩
    rw [hqB, hwB] at bB
    rw [hwB] at gB
    have g9B := grown_trans gA gB
    have HWB := Lib.hid (And.intro hwB hqB)
    have HBB := Lib.hid (And.intro bB g9B)
    clear gA gB bB g9B hqB hwB
    go_upto_region 17 with (fail)
    rw [HWB.out.1, HWB.out.2]
    have T1 := Lib.hid (show ∀ z : Gr wB, Calls Tryz.prog 18 #[errV (E 6)] z.1 fun e w' => e = .returned (.int .i64 7) ∧ z.1.grownBy w' none from fun z => num_err z.1 w2.heap.size E 6 (by omega) (HE2.out.2.below (H9.out.1.grown (grown_trans HBB.out.2 z.2)).below (Nat.le_refl _)))
    refine wp_region_grown (by kernel_rfl) (by kernel_rfl) ?_
    repeat (go_big_quiet_step (first | (go_at_call 18; with_reducible exact Calls.grown _ (T1.out _))))
    refine wpQuiet_nil ?_
    rintro wC ⟨⟨_, kC⟩, rfl⟩
    have HZ := Lib.hid (And.intro (H9.out.1.grown (grown_trans HBB.out.2 kC)) (And.intro (H9.out.2.1.grown (grown_trans HBB.out.2 kC)) (And.intro (H9.out.2.2.1.grown (grown_trans HBB.out.2 kC)) (Nat.lt_of_lt_of_le H9.out.2.2.2 (grown_trans HBB.out.2 kC).size))))
    clear kC T1 kf kf2 kf3 kf4
    by_cases hbad : ep < 0 ∨ 1073741824 < ep
    · have HFB := Lib.hid (gformat_bad (w := wC) (base := 2) E ((HE2.out.2.below HZ.out.1.below (Nat.le_refl _)).moreO HZ.out.1.2.1.size) (.pointer (some ⟨d, 0, none⟩)) kb ep hbad)
      have hd : (decide (ep < 0) = true) ∨ (decide (ep < 0) = false ∧ decide (1073741824 < ep) = true) := by simp; omega
      clear hbad
      rcases hd with dd1 | ⟨dd1, dd2⟩
      · go_wp2_with fail
        refine HFB.out.mono ?_
        rintro e wD ⟨rfl, gD⟩
        have HY := Lib.hid (HZ.out.1.grown gD)
        clear gD
        go_wp2_with fail
        refine (num_err wD w2.heap.size E 3 (by omega) (HE2.out.2.below HY.out.below (Nat.le_refl _))).mono ?_
        rintro e wE ⟨rfl, gE⟩
        have HY2 := Lib.hid (HY.out.grown gE)
        clear gE
        go_wp2_with fail
        go_ret
        exact ⟨rfl, grown_trans H2.out HY2.out.grownNone⟩
      · go_wp2_with fail
        refine HFB.out.mono ?_
        rintro e wD ⟨rfl, gD⟩
        have HY := Lib.hid (HZ.out.1.grown gD)
        clear gD
        go_wp2_with fail
        refine (num_err wD w2.heap.size E 3 (by omega) (HE2.out.2.below HY.out.below (Nat.le_refl _))).mono ?_
        rintro e wE ⟨rfl, gE⟩
        have HY2 := Lib.hid (HY.out.grown gE)
        clear gE
        go_wp2_with fail
        go_ret
        exact ⟨rfl, grown_trans H2.out HY2.out.grownNone⟩
    · have hok : 0 ≤ ep ∧ ep ≤ 1073741824 := by omega
      have dd1 : decide (ep < 0) = false := by simp; omega
      have dd2 : decide (1073741824 < ep) = false := by simp; omega
      clear hbad
      have HOK := Lib.hid hok
      have LF := Lib.hid (lasts_put (lasts_fmt HPZ.out.2 (base := 2) (by omega)).2 (base := 2) (by omega) 0 (stBs (st0 ep))).2
      have HFI := Lib.hid (gformat_is (base := 2) HZ.out.1 HE2.out.1 E HE2.out.2 HPZ.out.2 (by omega) ep hok HZ.out.2.1 HZ.out.2.2.1 HZ.out.2.2.2 H4.out.2.2.2.2.1)
      clear hok
      go_wp2_with fail
      refine HFI.out.mono ?_
      clear HFI
      rintro e wD ⟨⟨g2, s2, rfl, _, _, hGI, _⟩, _⟩
      have HD4 := Lib.hid hGI
      have HFR := Lib.hid (gformat_range (base := 3) hGI.dk HE2.out.1 E HE2.out.2 kb ep HOK.out (by rw [LF.out.2.2]; omega))
      clear hGI
      go_wp2_with fail
      refine HFR.out.mono ?_
      clear HFR
      rintro e wE ⟨rfl, hdE, hkE⟩
      have HE4 := Lib.hid (HD4.out.keptD hdE hkE)
      clear hdE hkE
      go_wp2_with fail
      refine (gstate_is HE4.out).mono ?_
      rintro e wF ⟨rfl, gF⟩
      have HF4 := Lib.hid (HE4.out.grown gF)
      clear gF
      obtain ⟨rt, hrt⟩ : ∃ rt, rt = arrV .u8 (rootC d9) := ⟨_, rfl⟩
      have hq : ∀ V, Sem.run Tryz.prog (Op.equalIn 10000 23 (.agg rt) (.agg rt)) V = .ok true V := eqDG (rootC d9) (rootC_dig d9).1 rt hrt
      have y0 : wF.cell? ⟨g2, 0, none⟩ = some (.pointer (some ⟨kb, 0, none⟩)) := HF4.out.gd.cell 0
      have HRT := Lib.hid (fun (Y : World) (h : KeyAt Y kb (arrV .u8 d9) (.slice (some ⟨lb, 0, none⟩) 32 cap) (arrV .u8 (rootC d9))) => (show Calls Tryz.prog 23 #[.pointer (some ⟨kb, 0, none⟩)] Y fun e w' => e = .returned (.agg rt) ∧ Y.grownBy w' none by rw [hrt]; exact kroot_is Y kb _ _ _ h (by rw [arr_size, (rootC_dig d9).1]) (arr_one _ _)))
      clear hrt
      simp only [st0]
      go_wp2_with fail
      refine (HRT.out wF HF4.out.ky).mono ?_
      rintro e wG ⟨rfl, gG⟩
      have HG4 := Lib.hid (HF4.out.grown gG)
      clear gG y0
      go_wp2_with fail
      refine (HRT.out wG HG4.out.ky).mono ?_
      rintro e wH ⟨rfl, gH⟩
      have HH4 := Lib.hid (HG4.out.grown gH)
      clear gH
      go_wp2_with fail
      refine (num_err wH w2.heap.size E 0 (by omega) (HE2.out.2.below HH4.out.dk.below (Nat.le_refl _))).mono ?_
      rintro e wI ⟨rfl, gI⟩
      have HI4 := Lib.hid (HH4.out.grown gI)
      clear gI
      go_wp2_with fail
      go_ret
      exact ⟨rfl, grown_trans H2.out HI4.out.dk.grownNone⟩
  · obtain rfl : k = 0 := hk0
    have HG := Lib.hid hG
    clear hG
    go_wp2_with fail
    refine HRR.out.mono ?_
    clear HRR
    rintro e wA ⟨rfl, gA⟩
    have gB := World.grownBy_alloc wA (.cells (stC t.e t.v t.l t.p t.f) 38) none
    have bB := Blk.new wA 38 (stC t.e t.v t.l t.p t.f)
    obtain ⟨qB, hqB⟩ : ∃ qB, wA.heap.size = qB := ⟨_, rfl⟩
    obtain ⟨wB, hwB⟩ : ∃ wB, wA.alloc (.cells (stC t.e t.v t.l t.p t.f) 38) = wB := ⟨_, rfl⟩
    rw [hqB, hwB] at bB
    rw [hwB] at gB
    have g9B := grown_trans gA gB
    have HWB := Lib.hid (And.intro hwB hqB)
    have HBB := Lib.hid (And.intro bB g9B)
    clear gA gB bB g9B hqB hwB
    go_upto_region 17 with (fail)
    rw [HWB.out.1, HWB.out.2]
    have T1 := Lib.hid (show ∀ z : Gr wB, Calls Tryz.prog 14 #[.pointer (some ⟨g, 0, none⟩)] z.1 fun e w' => e = .returned (stV t.e t.v t.l t.p t.f) ∧ z.1.grownBy w' none from fun z => gstate_is (P := ⟨g, kb, lb, cap, s', d, b, m⟩) (HG.out.grown (grown_trans HBB.out.2 z.2)))
    have u0 := HBB.out.1.cell 0
    have u1 := HBB.out.1.cell 1
    have u2 := HBB.out.1.cell 2
    have u3 := HBB.out.1.cell 3
    have u4 := HBB.out.1.cell 4
    simp only [List.getElem?_toArray, List.getElem?_cons_zero, List.getElem?_cons_succ] at u0 u1 u2 u3 u4
    have gu0 := Gr.cell u0
    have gu1 := Gr.cell u1
    have gu2 := Gr.cell u2
    have gu3 := Gr.cell u3
    have gu4 := Gr.cell u4
    clear u0 u1 u2 u3 u4
    refine wp_region_grown (by kernel_rfl) (by kernel_rfl) ?_
    repeat (go_big_quiet_step (first | (go_at_call 14; with_reducible exact Calls.grown _ (T1.out _))))
    refine wpQuiet_nil ?_
    rintro wC ⟨⟨_, kC⟩, rfl⟩
    have HZ := Lib.hid (And.intro (H9.out.1.grown (grown_trans HBB.out.2 kC)) (And.intro (H9.out.2.1.grown (grown_trans HBB.out.2 kC)) (And.intro (H9.out.2.2.1.grown (grown_trans HBB.out.2 kC)) (Nat.lt_of_lt_of_le H9.out.2.2.2 (grown_trans HBB.out.2 kC).size))))
    clear kC T1 gu0 gu1 gu2 gu3 gu4 HG
    by_cases hbad : ep < 0 ∨ 1073741824 < ep
    · have HFB := Lib.hid (gformat_bad (w := wC) (base := 2) E ((HE2.out.2.below HZ.out.1.below (Nat.le_refl _)).moreO HZ.out.1.2.1.size) (.pointer (some ⟨d, 0, none⟩)) kb ep hbad)
      have hd : (decide (ep < 0) = true) ∨ (decide (ep < 0) = false ∧ decide (1073741824 < ep) = true) := by simp; omega
      clear hbad
      rcases hd with dd1 | ⟨dd1, dd2⟩
      · go_wp2_with fail
        refine HFB.out.mono ?_
        rintro e wD ⟨rfl, gD⟩
        have HY := Lib.hid (HZ.out.1.grown gD)
        clear gD
        go_wp2_with fail
        refine (num_err wD w2.heap.size E 3 (by omega) (HE2.out.2.below HY.out.below (Nat.le_refl _))).mono ?_
        rintro e wE ⟨rfl, gE⟩
        have HY2 := Lib.hid (HY.out.grown gE)
        clear gE
        go_wp2_with fail
        go_ret
        exact ⟨rfl, grown_trans H2.out HY2.out.grownNone⟩
      · go_wp2_with fail
        refine HFB.out.mono ?_
        rintro e wD ⟨rfl, gD⟩
        have HY := Lib.hid (HZ.out.1.grown gD)
        clear gD
        go_wp2_with fail
        refine (num_err wD w2.heap.size E 3 (by omega) (HE2.out.2.below HY.out.below (Nat.le_refl _))).mono ?_
        rintro e wE ⟨rfl, gE⟩
        have HY2 := Lib.hid (HY.out.grown gE)
        clear gE
        go_wp2_with fail
        go_ret
        exact ⟨rfl, grown_trans H2.out HY2.out.grownNone⟩
    · have hok : 0 ≤ ep ∧ ep ≤ 1073741824 := by omega
      have dd1 : decide (ep < 0) = false := by simp; omega
      have dd2 : decide (1073741824 < ep) = false := by simp; omega
      clear hbad
      have HOK := Lib.hid hok
      have LF := Lib.hid (lasts_put (lasts_fmt HPZ.out.2 (base := 2) (by omega)).2 (base := 2) (by omega) 0 (stBs (st0 ep))).2
      have HFI := Lib.hid (gformat_is (base := 2) HZ.out.1 HE2.out.1 E HE2.out.2 HPZ.out.2 (by omega) ep hok HZ.out.2.1 HZ.out.2.2.1 HZ.out.2.2.2 H4.out.2.2.2.2.1)
      clear hok
      go_wp2_with fail
      refine HFI.out.mono ?_
      clear HFI
      rintro e wD ⟨⟨g2, s2, rfl, _, _, hGI, _⟩, _⟩
      have HD4 := Lib.hid hGI
      have HFR := Lib.hid (gformat_range (base := 3) hGI.dk HE2.out.1 E HE2.out.2 kb ep HOK.out (by rw [LF.out.2.2]; omega))
      clear hGI
      go_wp2_with fail
      refine HFR.out.mono ?_
      clear HFR
      rintro e wE ⟨rfl, hdE, hkE⟩
      have HE4 := Lib.hid (HD4.out.keptD hdE hkE)
      clear hdE hkE
      go_wp2_with fail
      refine (gstate_is HE4.out).mono ?_
      rintro e wF ⟨rfl, gF⟩
      have HF4 := Lib.hid (HE4.out.grown gF)
      clear gF
      obtain ⟨rt, hrt⟩ : ∃ rt, rt = arrV .u8 (rootC d9) := ⟨_, rfl⟩
      have hq : ∀ V, Sem.run Tryz.prog (Op.equalIn 10000 23 (.agg rt) (.agg rt)) V = .ok true V := eqDG (rootC d9) (rootC_dig d9).1 rt hrt
      have y0 : wF.cell? ⟨g2, 0, none⟩ = some (.pointer (some ⟨kb, 0, none⟩)) := HF4.out.gd.cell 0
      have HRT := Lib.hid (fun (Y : World) (h : KeyAt Y kb (arrV .u8 d9) (.slice (some ⟨lb, 0, none⟩) 32 cap) (arrV .u8 (rootC d9))) => (show Calls Tryz.prog 23 #[.pointer (some ⟨kb, 0, none⟩)] Y fun e w' => e = .returned (.agg rt) ∧ Y.grownBy w' none by rw [hrt]; exact kroot_is Y kb _ _ _ h (by rw [arr_size, (rootC_dig d9).1]) (arr_one _ _)))
      clear hrt
      simp only [st0]
      go_wp2_with fail
      refine (HRT.out wF HF4.out.ky).mono ?_
      rintro e wG ⟨rfl, gG⟩
      have HG4 := Lib.hid (HF4.out.grown gG)
      clear gG y0
      go_wp2_with fail
      refine (HRT.out wG HG4.out.ky).mono ?_
      rintro e wH ⟨rfl, gH⟩
      have HH4 := Lib.hid (HG4.out.grown gH)
      clear gH
      go_wp2_with fail
      refine (num_err wH w2.heap.size E 0 (by omega) (HE2.out.2.below HH4.out.dk.below (Nat.le_refl _))).mono ?_
      rintro e wI ⟨rfl, gI⟩
      have HI4 := Lib.hid (HH4.out.grown gI)
      clear gI
      go_wp2_with fail
      go_ret
      exact ⟨rfl, grown_trans H2.out HI4.out.dk.grownNone⟩
end Go.Proofs.YthkjlgjbjjjohaaGreatDoor
