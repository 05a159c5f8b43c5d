/-
  WireWidths: the walks.
-/
import Derived.Test.YtlkhbklmngaebaaDoorAlive
namespace Go.Proofs.YtlkhbklmngaebaaDoor
open Go.RowKit

/-- What the law's closure answers of a number and a width. -/
theorem closure_ok (w : World) (wb n width : Nat) (hc : w.cell? ⟨wb, 0, none⟩ = some (.int .i64 (width : Int))) (h1 : 1 ≤ width) (h8 : width ≤ 8) (hn : n < 256 ^ width) :
    Calls Tryd.prog 31 #[.int .i64 (n : Int), .pointer (some ⟨wb, 0, none⟩)] w fun e w' => e = .returned (.tuple #[.string ⟨(be width n).toArray⟩, .nilIface]) ∧ w.grownBy w' none := by
  go_enter Tryd.func31, Tryd.ntmps31
  go_wp2_with fail
  refine (new_ok _).mono ?_
  rintro e w1 ⟨rfl, rfl⟩
  have hw1 := WrIs.new w (F := fun k => k = w.heap.size) rfl
  have k1 := (Kept.refl (fun k => k = w.heap.size) w).alloc (.cells #[.nilIface, .slice none 0 0] 64)
  have c1 := k1.cell hc (fun e => by have := World.block_lt_of_cell? w _ hc; simp at e this; omega)
  generalize w.alloc (.cells #[.nilIface, .slice none 0 0] 64) = w1 at *
  go_wp2_with fail
  refine (number_ok _ _ _ _ n width hw1 h1 h8 hn (by simp)).mono ?_
  rintro e w2 ⟨rfl, hw2, k2⟩
  have k2' := k1.trans (k2.mono fun k _ h => .inl h)
  go_wp2_with fail
  rw [List.nil_append] at hw2
  refine (done_ok _ _ _ _ hw2 (by rw [be_length]; omega)).mono ?_
  rintro e w5 ⟨A, c, rfl, hown5, k6⟩
  have hs := toString_any (own_bytesAt hown5) (c := c) rfl
  go_wp2_with fail
  go_ret2
  exact ⟨rfl, grown_trans (k2'.grownNone fun k hk => by omega) k6⟩

theorem closure_bad (w : World) (B wb : Nat) (a : Addr) (n : Int) (width : Nat) (hc : w.cell? ⟨wb, 0, none⟩ = some (.int .i64 (width : Int))) (hbad : badNum n width = true) (he : ErrAt w B 2 a) :
    Calls Tryd.prog 31 #[.int .i64 n, .pointer (some ⟨wb, 0, none⟩)] w fun e w' => e = .returned (.tuple #[.string ⟨#[]⟩, errV a]) ∧ w.grownBy w' none := by
  go_enter Tryd.func31, Tryd.ntmps31
  go_wp2_with fail
  refine (new_ok _).mono ?_
  rintro e w1 ⟨rfl, rfl⟩
  have hw1 := WrIs.new w (F := fun k => k = w.heap.size) rfl
  have k1 := (Kept.refl (fun k => k = w.heap.size) w).alloc (.cells #[.nilIface, .slice none 0 0] 64)
  have c1 := k1.cell hc (fun e => by have := World.block_lt_of_cell? w _ hc; simp at e this; omega)
  have he1 : ErrAt (w.alloc (.cells #[.nilIface, .slice none 0 0] 64)) B 2 a := he.grown (World.grownBy_alloc w _ none) (fun _ e => by simp at e)
  generalize w.alloc (.cells #[.nilIface, .slice none 0 0] 64) = w1 at *
  go_wp2_with fail
  refine (number_bad _ _ B _ _ a n width hw1 he1 hbad).mono ?_
  rintro e w2 ⟨rfl, hw2, k2⟩
  have k2' := k1.trans (Kept.of_grown k2 (fun g h => by injection h with h; exact .inl h.symm))
  go_wp2_with fail
  refine (done_err _ _ _ _ _ _ hw2).mono ?_
  rintro e w5 ⟨rfl, k6⟩
  have hs := toString_any (BytesAt.nil w5 none) (n := 0) (c := 0) rfl
  go_wp2_with fail
  go_ret2
  exact ⟨rfl, grown_trans (k2'.grownNone fun k hk => by omega) k6⟩

theorem be_mod (k : Nat) : ∀ n : Nat, be k (n % 256 ^ k) = be k n := by
  induction k with
  | zero => intro n; rfl
  | succ k ih =>
    intro n
    have h : (n % 256 ^ (k + 1)) % 256 ^ k = n % 256 ^ k := Nat.mod_mod_of_dvd _ ⟨256, by rw [Nat.pow_succ]⟩
    have hd : n % 256 ^ (k + 1) / 256 ^ k = n / 256 ^ k % 256 := by
      rw [Nat.pow_succ, Nat.mod_mul_right_div_self]
    simp only [be]
    rw [hd, ← ih (n % 256 ^ (k + 1)), h, ih n]
    congr 1
    apply UInt8.toNat_inj.1
    simp
theorem ofNat_lt {x y : Nat} (hx : x < 256) (hy : y < 256) : decide (UInt8.ofNat x < UInt8.ofNat y) = decide (x < y) := by
  rw [Bool.eq_iff_iff]
  simp [UInt8.lt_iff_toNat_lt]; omega
theorem ofNat_eq {x y : Nat} (hx : x < 256) (hy : y < 256) : (UInt8.ofNat x == UInt8.ofNat y) = decide (x = y) := by
  rw [Bool.eq_iff_iff]
  simp [← UInt8.toNat_inj]; omega
theorem bytesLess_be (k : Nat) : ∀ a b : Nat, a < 256 ^ k → b < 256 ^ k → Op.bytesLess (be k a) (be k b) = decide (a < b) := by
  induction k with
  | zero => intro a b ha hb; simp at ha hb; subst ha; subst hb; rfl
  | succ k ih =>
    intro a b ha hb
    have hp : 0 < 256 ^ k := Nat.pow_pos (by omega)
    rw [Nat.pow_succ] at ha hb
    have ha' : a / 256 ^ k < 256 := Nat.div_lt_of_lt_mul ha
    have hb' : b / 256 ^ k < 256 := Nat.div_lt_of_lt_mul hb
    have h := ih (a % 256 ^ k) (b % 256 ^ k) (Nat.mod_lt _ hp) (Nat.mod_lt _ hp)
    rw [be_mod, be_mod] at h
    have ea := Nat.div_add_mod a (256 ^ k)
    have eb := Nat.div_add_mod b (256 ^ k)
    have ma := Nat.mod_lt a hp
    have mb := Nat.mod_lt b hp
    simp only [be, Op.bytesLess]
    rw [h, ofNat_lt ha' hb', ofNat_eq ha' hb']
    generalize a / 256 ^ k = x at *
    generalize b / 256 ^ k = y at *
    generalize a % 256 ^ k = r at *
    generalize b % 256 ^ k = s at *
    generalize 256 ^ k = p at *
    rcases Nat.lt_trichotomy x y with hl | hl | hl
    · have := Nat.mul_le_mul_left p (show x + 1 ≤ y from hl)
      rw [Nat.mul_add] at this
      have h2 : decide (a < b) = true := by simp; omega
      have h1 : decide (x < y) = true := by simpa using hl
      rw [h1, h2]; rfl
    · subst hl
      have h2 : decide (a < b) = decide (r < s) := by rw [Bool.eq_iff_iff]; simp; omega
      rw [h2]; simp
    · have := Nat.mul_le_mul_left p (show y + 1 ≤ x from hl)
      rw [Nat.mul_add] at this
      have h2 : decide (a < b) = false := by simp; omega
      have h1 : decide (x < y) = false := by simp; omega
      have h3 : decide (x = y) = false := by simp; omega
      rw [h1, h2, h3]; rfl
theorem width_val (width : Int) : ∃ k : Nat, 1 ≤ k ∧ k ≤ 8 ∧ wrap64 (1 + wrap64 ((IntKind.u64.wrap width).tmod 8)) = (k : Int) := by
  have h0 : 0 ≤ IntKind.u64.wrap width := by simp [IntKind.wrap_u64]; omega
  have h1 : (IntKind.u64.wrap width).tmod 8 = IntKind.u64.wrap width % 8 := Int.tmod_eq_emod_of_nonneg h0
  refine ⟨(1 + IntKind.u64.wrap width % 8).toNat, by omega, by omega, ?_⟩
  rw [h1]
  have e1 : wrap64 (IntKind.u64.wrap width % 8) = IntKind.u64.wrap width % 8 := by unfold wrap64; omega
  rw [e1]
  unfold wrap64
  omega

/-- A number fits a width, or it doesn't: the tests of the law in either case. -/
theorem fits_or (a : Int) (k : Nat) (h1 : 1 ≤ k) (h8 : k ≤ 8) (wa : (Lit.int .i64 a).wf = true) :
    (∃ n : Nat, a = (n : Int) ∧ n < 256 ^ k ∧ (((n : Int) / 2 ^ (8 * k)) == 0) = true) ∨
    (badNum a k = true ∧ decide (0 ≤ a) = false) ∨ (∃ n : Nat, a = (n : Int) ∧ badNum (n : Int) k = true ∧ (((k : Nat) : Int) == 8) = false ∧ (((n : Int) / 2 ^ (8 * k)) == 0) = false) := by
  have hw : -9223372036854775808 ≤ a ∧ a ≤ 9223372036854775807 := by simpa [Lit.wf, IntKind.min, IntKind.max, IntKind.signed, IntKind.bits] using wa
  by_cases h0 : 0 ≤ a
  · obtain ⟨n, rfl⟩ := Int.eq_ofNat_of_zero_le h0
    by_cases hn : n < 256 ^ k
    · exact .inl ⟨n, rfl, hn, by rw [shr_zero hn]; rfl⟩
    · have hd : 0 < n / 256 ^ k := Nat.div_pos (by omega) (Nat.pow_pos (by omega))
      have hz : (((n : Int) / 2 ^ (8 * k)) == 0) = false := by
        rw [shr_cast]; simp only [beq_eq_false_iff_ne, ne_eq]; omega
      refine .inr (.inr ⟨n, rfl, ?_, ?_, hz⟩)
      · unfold badNum
        rw [Int.toNat_natCast]
        have : (((n : Int) / 2 ^ (8 * k)) != 0) = true := by rw [bne, hz]; rfl
        rw [this]; simp
      · simp only [beq_eq_false_iff_ne, ne_eq]
        intro h
        have : k = 8 := by omega
        subst this
        exact hn (by omega)
  · refine .inr (.inl ⟨?_, by simpa using h0⟩)
    unfold badNum
    have : decide (a < 0) = true := by simp; omega
    rw [this]; simp

theorem closure_any (w : World) (B : Nat) (E : Nat → Addr) (wb : Nat) (b : Int) (k : Nat) (hc : w.cell? ⟨wb, 0, none⟩ = some (.int .i64 (k : Int))) (h1 : 1 ≤ k) (h8 : k ≤ 8) (wfb : (Lit.int .i64 b).wf = true) (he : ErrEnv w B E) :
    (∃ m : Nat, b = (m : Int) ∧ m < 256 ^ k ∧ Calls Tryd.prog 31 #[.int .i64 (m : Int), .pointer (some ⟨wb, 0, none⟩)] w fun e w' => e = .returned (.tuple #[.string ⟨(be k m).toArray⟩, .nilIface]) ∧ w.grownBy w' none) ∨
    Calls Tryd.prog 31 #[.int .i64 b, .pointer (some ⟨wb, 0, none⟩)] w fun e w' => ∃ s, e = .returned (.tuple #[.string s, errV (E 0)]) ∧ w.grownBy w' none := by
  rcases fits_or b k h1 h8 wfb with ⟨n, rfl, hn, f1⟩ | ⟨hbad, f1⟩ | ⟨n, rfl, hbad, f1, f2⟩
  · exact .inl ⟨n, rfl, hn, closure_ok _ _ n k hc h1 h8 hn⟩
  · exact .inr ((closure_bad _ B _ _ _ k hc hbad (he.var 0 (by omega))).mono fun _ _ ⟨h1, h2⟩ => ⟨_, h1, h2⟩)
  · exact .inr ((closure_bad _ B _ _ _ k hc hbad (he.var 0 (by omega))).mono fun _ _ ⟨h1, h2⟩ => ⟨_, h1, h2⟩)
theorem num_range (w : World) (B : Nat) (E : Nat → Addr) (he : ErrEnv w B E) : Calls Tryd.prog 16 #[errV (E 0)] w fun e w' => e = .returned (.int .i64 1) ∧ w.grownBy w' none :=
  num_err w B E 0 (by omega) he

set_option maxHeartbeats 1000000 in
theorem widths_any (w : World) (B : Nat) (E : Nat → Addr) (a b width : Int) (he : ErrEnv w B E) (wa : (Lit.int .i64 a).wf = true) (wb : (Lit.int .i64 b).wf = true) :
    Calls Tryd.prog 7 #[.int .i64 a, .int .i64 b, .int .i64 width] w fun e w' => e = .returned (.bool true) ∧ w.grownBy w' none := by
  obtain ⟨k, hk1, hk8, hk⟩ := width_val width
  go_enter Tryd.func7, Tryd.ntmps7
  go_wp2_with fail
  refine (alive_any _).mono ?_
  rintro e w1 ⟨rfl, k1⟩
  have hb := (Blk.new w 3 #[.int .i64 width]).grown k1 (by simp)
  have c0 := hb.cell 0
  have f0 := hb.frozen 0
  simp at c0
  have kk := grown_trans (World.grownBy_alloc w (.cells #[.int .i64 width] 3) none) k1
  go_wp2_with fail
  have c2 := (hb.set 0 (.int .i64 (k : Int))).cell 0
  have k2 : w.grownBy (w1.setCell ⟨w.heap.size, 0, none⟩ (.int .i64 (k : Int))) none := ((Kept.of_grown (F := fun _ => False) kk (fun _ h => by cases h)).set (.inr (Nat.le_refl _)) _).grownNone (fun _ _ h => h)
  simp at c2
  clear hk c0 f0 hb k1 kk
  generalize w1.setCell ⟨w.heap.size, 0, none⟩ (.int .i64 (k : Int)) = w2 at *
  have he2 := he.grown k2 (fun _ h => by cases h)
  rcases fits_or a k hk1 hk8 wa with ⟨n, rfl, hn, f1⟩ | ⟨hbad, f1⟩ | ⟨n, rfl, hbad, f1, f2⟩
  · refine (closure_ok _ _ n k c2 hk1 hk8 hn).mono ?_
    rintro e w3 ⟨rfl, k3⟩
    have c3 := k3.cell c2 (by simp)
    have he3 := he2.grown k3 (fun _ h => by cases h)
    go_wp2_with fail
    rcases closure_any w3 B E w.heap.size b k c3 hk1 hk8 wb he3 with ⟨m, rfl, hm, hcl⟩ | hcl
    · refine hcl.mono ?_
      rintro e w4 ⟨rfl, k4⟩
      have c4 := k4.cell c3 (by simp)
      have hless := bytesLess_be k n m hn hm
      have hl1 := be_length k n
      have hl2 := be_length k m
      go_wp2_with fail
      all_goals
        go_ret
        exact ⟨rfl, grown_trans (grown_trans k2 k3) k4⟩
    · refine hcl.mono ?_
      rintro e w4 ⟨s, rfl, k4⟩
      have c4 := k4.cell c3 (by simp)
      go_wp2_with fail
      all_goals
        go_ret
        exact ⟨rfl, grown_trans (grown_trans k2 k3) k4⟩
  all_goals
    refine (closure_bad _ B _ _ _ k c2 hbad (he2.var 0 (by omega))).mono ?_
    rintro e w3 ⟨rfl, k3⟩
    have c3 := k3.cell c2 (by simp)
    have he3 := he2.grown k3 (fun _ h => by cases h)
    go_wp2_with fail
    have hcl : Calls Tryd.prog 31 #[.int .i64 b, .pointer (some ⟨w.heap.size, 0, none⟩)] w3 fun e w' => ∃ s ev, e = .returned (.tuple #[.string s, ev]) ∧ w3.grownBy w' none := by
      rcases closure_any w3 B E w.heap.size b k c3 hk1 hk8 wb he3 with ⟨m, rfl, hm, hcl⟩ | hcl
      · exact hcl.mono fun _ _ ⟨h1, h2⟩ => ⟨_, _, h1, h2⟩
      · exact hcl.mono fun _ _ ⟨_, h1, h2⟩ => ⟨_, _, h1, h2⟩
    refine hcl.mono ?_
    rintro e w4 ⟨s, ev, rfl, k4⟩
    have c4 := k4.cell c3 (by simp)
    have he4 := he3.grown k4 (fun _ h => by cases h)
    go_wp2_with (go_at_call 16; refine (num_range _ B E he4).mono ?_; rintro e w5 ⟨rfl, k5⟩)
    go_ret
    exact ⟨rfl, grown_trans (grown_trans (grown_trans k2 k3) k4) k5⟩
end Go.Proofs.YtlkhbklmngaebaaDoor
