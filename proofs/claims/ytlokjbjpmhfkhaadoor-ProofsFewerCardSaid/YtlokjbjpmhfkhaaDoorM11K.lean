/-
  Several texts in one: DkY, GdO, Pf8.
-/
import Derived.Test.YtlokjbjpmhfkhaaDoorM11J
import Derived.Test.YtlokjbjpmhfkhaaDoorM11j
import Derived.Test.YtlokjbjpmhfkhaaDoorM11H
import Derived.Test.YtlokjbjpmhfkhaaDoorM11k
import Derived.Test.YtlokjbjpmhfkhaaDoorM11G
import Derived.Test.YtlokjbjpmhfkhaaDoorM11o
import Derived.Test.YtlokjbjpmhfkhaaDoorM11z
/-
  Disk: Sync.
-/
namespace Go.Proofs.YtlokjbjpmhfkhaaDoor
open Go.RowKit Go.Maps

theorem sameKey_int (a b : Int) : (Lit.int .i64 a).sameKey (.int .i64 b) = decide (a = b) := by
  by_cases h : a = b
  · subst h; simp [Lit.sameKey]
  · rw [sameKey_ne (fun e => h (by injection e))]; simp [h]
theorem setCells_cons (w : World) (b o : Nat) (v : Value) (r : List Value) : w.setCells b o (v :: r) = (w.setCell ⟨b, o, none⟩ v).setCells b (o + 1) r := rfl
theorem lay_cons {α : Type} (cs : List α) (o : Nat) (v : α) (vs : List α) (h : o + (v :: vs).length ≤ cs.length) : (cs.set o v).take (o + 1) ++ vs ++ (cs.set o v).drop (o + 1 + vs.length) = cs.take o ++ (v :: vs) ++ cs.drop (o + (v :: vs).length) := by
  rw [List.length_cons] at h ⊢
  have e1 : (cs.set o v).take (o + 1) = cs.take o ++ [v] := by
    rw [List.take_add_one, List.take_set_of_le (Nat.le_refl _), List.getElem?_set_self (by omega)]; rfl
  rw [e1, List.drop_set_of_lt (by omega), show o + 1 + vs.length = o + (vs.length + 1) by omega]
  simp
theorem blk_setCells (b : Nat) (t : TypeId) : ∀ (vs : List Value) (o : Nat) (w : World) (cs : List Value), Blk w b t cs.toArray → o + vs.length ≤ cs.length → Blk (w.setCells b o vs) b t (cs.take o ++ vs ++ cs.drop (o + vs.length)).toArray
  | [], o, w, cs, h, hl => by simpa [World.setCells] using h
  | v :: vs, o, w, cs, h, hl => by
    rw [setCells_cons, ← lay_cons cs o v vs hl]
    refine blk_setCells b t vs (o + 1) _ _ ?_ (by rw [List.length_set]; rw [List.length_cons] at hl; omega)
    simpa using h.set o v
theorem grown_cells {w : World} (b : Nat) : ∀ (vs : List Value) (o : Nat) (w1 : World), w.grownBy w1 (some b) → w.grownBy (w1.setCells b o vs) (some b)
  | [], _, _, h => h
  | v :: r, o, w1, h => by
    rw [setCells_cons]
    exact grown_cells b r (o + 1) _ (grown_far h (.inr rfl) v)
def rowsC (S : List (List Int)) : List Value := S.flatMap fun r => r.map (Value.int .u8)
theorem rowsC_len : ∀ (S : List (List Int)), (∀ r ∈ S, r.length = 64) → (rowsC S).length = S.length * 64
  | [], _ => rfl
  | a :: S, h => by
    have := rowsC_len S (fun r hr => h r (List.mem_cons_of_mem _ hr))
    have h0 := h a List.mem_cons_self
    simp only [rowsC, List.flatMap_cons, List.length_append, List.length_map, List.length_cons] at this ⊢
    omega
theorem rowsC_set : ∀ (S : List (List Int)) (_ : ∀ r ∈ S, r.length = 64) (k : Nat) (_ : k < S.length) (r : List Int) (_ : r.length = 64), rowsC (S.set k r) = (rowsC S).take (k * 64) ++ r.map (Value.int .u8) ++ (rowsC S).drop (k * 64 + (r.map (Value.int .u8)).length)
  | a :: S, h, 0, _, r, hr => by
    have h0 : (a.map (Value.int .u8)).length = 64 := by simpa using h a List.mem_cons_self
    rw [List.length_map, hr]
    simp only [rowsC, List.set_cons_zero, List.flatMap_cons, Nat.zero_mul, List.take_zero, List.nil_append, Nat.zero_add]
    rw [List.drop_append_of_le_length (by omega), List.drop_of_length_le (by omega)]; rfl
  | a :: S, h, k + 1, hk, r, hr => by
    have h0 : (a.map (Value.int .u8)).length = 64 := by simpa using h a List.mem_cons_self
    have ih := rowsC_set S (fun r hr => h r (List.mem_cons_of_mem _ hr)) k (by simpa using hk) r hr
    simp only [rowsC, List.set_cons_succ, List.flatMap_cons] at ih ⊢
    rw [ih, show (k + 1) * 64 = (a.map (Value.int .u8)).length + k * 64 by omega, Nat.add_assoc, List.take_length_add_append, List.drop_length_add_append]
    simp only [List.append_assoc]
theorem wpListIn_clear_own {H : Type} {F : Fence} {n : Nat} {P : Program} (w : World) {ops : Array Oper} {rest : List Oper} {o : Oper} {a : Act} {Q : Exit → Act → World → Prop}
    (hg : o.guard = none) (x : Operand) (t : TypeId) (hop : o.op = Op.call { callee := Callee.builtin Builtin.clear, args := #[x], argTypes := #[t] })
    (k e : TypeId) (ht : P.underlying t = some (.map k e)) (R : Value → Option (DataW Unit × List MemPlace)) (b nn : Nat) (D : DataW Unit) (hm : a.eval x = .map (some b)) (hown : w.ownsMap P k R b nn D)
    (hK : ∀ w', w'.ownsMap P k R b 0 (.map []) → w.mapTurned w' b → wpListIn F n P ops Q rest (a.put o.dst (.tuple #[])) w') :
    wpListIn F n P ops Q (o :: rest) a w := by
  refine wpListIn_plain hg fun K' hK' => ?_
  obtain ⟨w', hrun, h1, h2⟩ := clear_own hown ht o.type
  unfold Oper.wpIn
  refine ⟨?_, ?_⟩
  · simp [Oper.about, hop, resolve, Target.leads, Sem.run_pure]
  · rw [Oper.semAt_plain F _ _ (by rw [hop]; intro c hc'; cases hc')]
    simp [execOp, hop, resolve, invoke, builtin, hm, hrun, Result.andThen]
    exact hK' _ _ (hK w' h1 h2)
theorem ready_store_mid {P : Program} {ops : Array Oper} {o : Oper} {a : Act} {w : World} {K : Act → World → Prop} {Q : Exit → Act → World → Prop} (hw : Region.wanted o (yielded ops a.tmps) = true) (ty : TypeId) (x y : Operand) (ho : o.op = .store ty x y)
    (b off : Nat) (cells : Array Value) (hx : a.eval x = .pointer (some ⟨b, off, none⟩)) (hy : a.eval y = .agg cells)
    (ht : w.there b off cells.size) (hi : (P.info? ty).map (·.size) = some cells.size) (h1 : cells.all (·.oneCell') = true)
    (h : K (a.put o.dst undef) (w.setCells b off cells.toList)) : if Region.wanted o (yielded ops a.tmps) = true then Oper.wp P o a w K Q else K (a.put o.dst undef) w := by
  rw [if_pos hw]
  unfold Oper.wp execOp
  simp only [ho, hx, hy, Sem.run_bind, Sem.run_pure, Result.andThen_ok, run_storeAt_mid w b off ty cells ht hi h1]
  exact h
theorem mgS_id {syn : List (List Int)} {wr : List (Option (List Int))} {p : Nat → Bool} (h : ∀ i, i < syn.length → p i = true → wr[i]?.join = none) : mgS syn wr p = syn := by
  refine List.ext_getElem (mgS_length _ _ _) (fun i h1 h2 => ?_)
  rw [mgS_at h1]
  have e : syn.getD i [] = syn[i] := by simp [List.getD, List.getElem?_eq_getElem h2]
  cases hp : p i with
  | false => simpa using e
  | true => rw [h i h2 hp, e]; rfl
theorem mapOf_at {D : DataW Unit} {wr : List (Option (List Int))} (h : MapOf D wr) {x : Int} {y : DataW Unit} (hx : has D (.int .i64 x) = true) (hy : ∀ zd, D.atKey (.int .i64 x) zd = y) : ∃ i : Nat, ∃ r, x = (i : Int) ∧ i < wr.length ∧ wr[i]? = some (some r) ∧ y = secD r := by
  obtain ⟨i, hi, rfl⟩ := h.2.1 x hx
  rw [mapOf_has h hi] at hx
  obtain ⟨r, hr⟩ := Option.isSome_iff_exists.1 hx
  exact ⟨i, r, rfl, hi, by rw [List.getElem?_eq_getElem hi, hr], by rw [← hy (.map []), ((h.2.2 i hi).2 r hr).2]⟩
theorem wpIn_normal {F : Fence} {n : Nat} {P : Program} {c : Code} {Q : Exit → Act → World → Prop} {a : Act} {w : World} (h : Code.wpIn F n P c (fun e a' w' => e = .normal ∧ Q e a' w') a w) : Code.wpIn F n P c Q a w :=
  wpIn_mono h (by rintro e a' w' ⟨rfl, h⟩; exact h)
def syncS (z : DkS) : DkS := { z with syn := mgS z.syn z.wr (fun _ => true), wr := List.replicate z.wr.length none }
end Go.Proofs.YtlokjbjpmhfkhaaDoor
/-
  Codec: what is signed for votes, late words and proposals.
-/
namespace Go.Proofs.YtlokjbjpmhfkhaaDoor
open Go.RowKit

def forV (e r : Int) (d : List Int) : List Int := ofS 7 [b8 e, b8 r, d]
def forL (e r h : Int) : List Int := ofS 8 [b8 e, b8 r, b8 h]
def forP (d : List Int) : List Int := ofS 9 [d]
theorem parts3 {w : World} {q : Nat} {A B C : Option Addr} {n1 c1 n2 c2 n3 c3 : Nat} {x y z : List Int} (h : Blk w q 25 #[.slice A n1 c1, .slice B n2 c2, .slice C n3 c3]) (h1 : x.length = n1) (h2 : y.length = n2) (h3 : z.length = n3) (l1 : n1 ≤ c1) (l2 : n2 ≤ c2) (l3 : n3 ≤ c3) (b1 : BytesI w A x) (b2 : BytesI w B y) (b3 : BytesI w C z) : PartsI w (some ⟨q, 0, none⟩) [x, y, z] := fun j hj => by
  have hj3 : j = 0 ∨ j = 1 ∨ j = 2 := by have : j < 3 := hj; omega
  have e := h.cell j
  rw [show (⟨q, j, none⟩ : Addr) = (⟨q, 0, none⟩ : Addr).add j by rw [Go.WideShapes.add_plain, Nat.zero_add]] at e
  rcases hj3 with rfl | rfl | rfl
  · exact ⟨_, A, n1, c1, rfl, e, h1, l1, b1⟩
  · exact ⟨_, B, n2, c2, rfl, e, h2, l2, b2⟩
  · exact ⟨_, C, n3, c3, rfl, e, h3, l3, b3⟩
theorem parts1 {w : World} {q : Nat} {A : Option Addr} {n1 c1 : Nat} {x : List Int} (h : Blk w q 25 #[.slice A n1 c1]) (h1 : x.length = n1) (l1 : n1 ≤ c1) (b1 : BytesI w A x) : PartsI w (some ⟨q, 0, none⟩) [x] := fun j hj => by
  obtain rfl : j = 0 := by have : j < 1 := hj; omega
  have e := h.cell 0
  rw [show (⟨q, 0, none⟩ : Addr) = (⟨q, 0, none⟩ : Addr).add 0 by rw [Go.WideShapes.add_plain]] at e
  exact ⟨_, A, n1, c1, rfl, e, h1, l1, b1⟩
theorem number_any (w : World) (n : Int) (hn : -9223372036854775808 ≤ n ∧ n < 9223372036854775808) :
    Calls Tryd.prog 43 #[.int .i64 n] w fun e w' => ∃ p, e = .returned (.slice (some ⟨p, 0, none⟩) 8 8) ∧ BytesI w' (some ⟨p, 0, none⟩) (b8 n) ∧ w.grownBy w' none :=
  (number_is w n hn).mono fun _ _ h => ⟨_, h⟩
section
variable (w : World) (hR : Rounds w)
include hR
set_option maxRecDepth 100000 in
set_option maxHeartbeats 1000000 in
theorem forL_is (e r h : Int) (he : -9223372036854775808 ≤ e ∧ e < 9223372036854775808) (hr : -9223372036854775808 ≤ r ∧ r < 9223372036854775808) (hh : -9223372036854775808 ≤ h ∧ h < 9223372036854775808) :
    Calls Tryd.prog 29 #[.int .i64 e, .int .i64 r, .int .i64 h] w fun e' w' => e' = .returned (.agg (arrV .u8 (forL e r h))) ∧ w.grownBy w' none := by
  obtain ⟨Z16, hZ16⟩ : ∃ Z, Z = arrV .u8 (List.replicate 16 0) := ⟨_, rfl⟩
  have hz16 : ∀ w, Sem.run Tryd.prog (zeroValue 32) w = .ok (.agg Z16) w := fun w => by rw [hZ16]; exact z16run w
  obtain ⟨w1, hw1⟩ : ∃ w1, w.alloc (.cells Z16 32) = w1 := ⟨_, rfl⟩
  obtain ⟨q, hq⟩ : ∃ q, w.heap.size = q := ⟨_, rfl⟩
  have b2 : Blk w1 q 32 Z16 := by rw [← hw1, ← hq]; exact Blk.new w _ _
  have g1 : w.grownBy w1 none := by rw [← hw1]; exact World.grownBy_alloc _ _ none
  have HB := Lib.hid (And.intro b2 (And.intro g1 (And.intro (show Z16.size = 16 by rw [hZ16]; rfl) hq)))
  have HW := Lib.hid (And.intro hw1 hR)
  obtain ⟨F, hF⟩ : ∃ F, arrV .u8 (forL e r h) = F := ⟨_, rfl⟩
  have hFz : F.size = 16 := by rw [← hF, arr_size]; exact ofS_length _ _
  have hFo : (F.all fun v => v.oneCell') = true := by rw [← hF]; exact arr_one _ _
  have HF := Lib.hid (And.intro hF (And.intro hFz hFo))
  have HX := Lib.hid (And.intro he (And.intro hr hh))
  clear hR hZ16 b2 g1 hw1 hF hFz hFo he hr hh
  go_enter Tryd.func29, Tryd.ntmps29
  go_wp2_with fail
  clear hz16
  rw [HW.out.1]
  refine (number_any w1 e HX.out.1).mono ?_
  rintro e1 w2 ⟨p1, rfl, x1, g2⟩
  have H2 := Lib.hid (And.intro x1 g2)
  clear x1 g2
  go_wp2_with fail
  refine (number_any w2 r HX.out.2.1).mono ?_
  rintro e1 w3 ⟨p2, rfl, x2, g3⟩
  have H3 := Lib.hid (And.intro x2 g3)
  clear x2 g3
  go_wp2_with fail
  refine (number_any w3 h HX.out.2.2).mono ?_
  rintro e1 w4 ⟨p3, rfl, x3, g4⟩
  have H4 := Lib.hid (And.intro x3 g4)
  clear x3 g4
  go_wp2_with fail
  have g5 : w4.grownBy (w4.alloc (.cells #[.slice (some ⟨p1, 0, none⟩) 8 8, .slice (some ⟨p2, 0, none⟩) 8 8, .slice (some ⟨p3, 0, none⟩) 8 8] 25)) none := World.grownBy_alloc _ _ none
  have b5 := Blk.new w4 25 #[.slice (some ⟨p1, 0, none⟩) 8 8, .slice (some ⟨p2, 0, none⟩) 8 8, .slice (some ⟨p3, 0, none⟩) 8 8]
  obtain ⟨w5, hw5⟩ : ∃ w5, w4.alloc (.cells #[.slice (some ⟨p1, 0, none⟩) 8 8, .slice (some ⟨p2, 0, none⟩) 8 8, .slice (some ⟨p3, 0, none⟩) 8 8] 25) = w5 := ⟨_, rfl⟩
  rw [hw5] at g5 b5 ⊢
  have g15 := grown_trans H2.out.2 (grown_trans H3.out.2 (grown_trans H4.out.2 g5))
  have HO := Lib.hid (of_is w5 (HW.out.2.grown (grown_trans HB.out.2.1 g15) (by simp)) 8 (some ⟨w4.heap.size, 0, none⟩) 3 3 [b8 e, b8 r, b8 h] rfl (parts3 b5 rfl rfl rfl (Nat.le_refl _) (Nat.le_refl _) (Nat.le_refl _) (H2.out.1.grown (grown_trans H3.out.2 (grown_trans H4.out.2 g5))) (H3.out.1.grown (grown_trans H4.out.2 g5)) (H4.out.1.grown g5)) (by omega) (fun p hp => by
    simp only [List.mem_cons, List.not_mem_nil, or_false] at hp
    rcases hp with rfl | rfl | rfl <;> (rw [b8_length]; omega)))
  have HG := Lib.hid (And.intro (HB.out.1.grown g15 (by simp)) (grown_trans HB.out.2.1 g15))
  clear g5 b5 g15 hw5
  refine HO.out.mono ?_
  rintro e1 w6 ⟨rfl, g6⟩
  rw [show arrV .u8 (ofS 8 [b8 e, b8 r, b8 h]) = F from HF.out.1]
  have HB3 := Lib.hid (And.intro (HG.out.1.grown g6 (by simp)) (grown_trans HG.out.2 g6))
  clear g6
  go_wp2_with (first
    | (refine wpList_store_row rfl 32 _ _ rfl q F rfl rfl 32 _ HB3.out.1 (by rw [HF.out.2.1]; exact info16) (by rw [HF.out.2.1, HB.out.2.2.1]) HF.out.2.2 ?_))
  refine bodyPost_ret (results_cell rfl _ _ _ ⟨q, 0, none⟩ (.agg F) rfl (run_loadVar_row _ q 32 32 _ (0, 0) _ (HB3.out.1.row _) Tryd.underlying32 rfl (by rw [HF.out.2.1]; exact info16))) rfl ?_
  exact ⟨by rw [HF.out.1], grown_row HB3.out.2 (.inl (by rw [HB.out.2.2.2]; exact Nat.le_refl _)) _⟩
set_option maxRecDepth 100000 in
set_option maxHeartbeats 1000000 in
theorem forV_is (e r : Int) (he : -9223372036854775808 ≤ e ∧ e < 9223372036854775808) (hr : -9223372036854775808 ≤ r ∧ r < 9223372036854775808) (d : List Int) (hd : isDig d) (dd : Array Value) (hdd : dd = arrV .u8 d) :
    Calls Tryd.prog 37 #[.int .i64 e, .int .i64 r, .agg dd] w fun e' w' => e' = .returned (.agg (arrV .u8 (forV e r d))) ∧ w.grownBy w' none := by
  obtain ⟨Z16, hZ16⟩ : ∃ Z, Z = arrV .u8 (List.replicate 16 0) := ⟨_, rfl⟩
  have hz16 : ∀ w, Sem.run Tryd.prog (zeroValue 32) w = .ok (.agg Z16) w := fun w => by rw [hZ16]; exact z16run w
  obtain ⟨q, hq⟩ : ∃ q, w.heap.size = q := ⟨_, rfl⟩
  obtain ⟨w1, hw1⟩ : ∃ w1, (w.alloc (.cells dd 32)).alloc (.cells Z16 32) = w1 := ⟨_, rfl⟩
  have b1 : Blk w1 q 32 dd := by rw [← hw1, ← hq]; exact (Blk.new w _ _).alloc _
  have b2 : Blk w1 (q + 1) 32 Z16 := by
    have h := Blk.new (w.alloc (.cells dd 32)) 32 Z16
    rw [World.size_alloc, hw1, hq] at h
    exact h
  have g1 : w.grownBy w1 none := by rw [← hw1]; exact grown_trans (World.grownBy_alloc _ _ none) (World.grownBy_alloc _ _ none)
  obtain ⟨V1, hV1⟩ : ∃ V1, w1.drew = V1 := ⟨_, rfl⟩
  have hb : Blk V1 (q + 1) 32 Z16 ∧ w.grownBy V1 none ∧ Blk V1 q 32 dd := by rw [← hV1]; exact ⟨b2.drew, grown_drew g1, b1.drew⟩
  have HB := Lib.hid (And.intro hb.1 (And.intro hb.2.1 (And.intro (show Z16.size = 16 by rw [hZ16]; rfl) (And.intro hq hb.2.2))))
  have HW := Lib.hid (And.intro (And.intro hw1 hV1) hR)
  have HSL := Lib.hid (fun V : World => dig_slice V q)
  obtain ⟨F, hF⟩ : ∃ F, arrV .u8 (forV e r d) = F := ⟨_, rfl⟩
  have hFz : F.size = 16 := by rw [← hF, arr_size]; exact ofS_length _ _
  have hFo : (F.all fun v => v.oneCell') = true := by rw [← hF]; exact arr_one _ _
  have HF := Lib.hid (And.intro hF (And.intro hFz hFo))
  have HX := Lib.hid (And.intro he (And.intro hr (And.intro hd.1 hdd)))
  clear hR hZ16 b1 b2 g1 hw1 hV1 hF hFz hFo he hr hd hdd hb
  go_enter Tryd.func37, Tryd.ntmps37
  go_wp2_with fail
  clear hz16
  rw [HW.out.1.1]
  refine wp_region_held_drew (S := fun V => True) (by kernel_rfl) trivial (fun hHeld => ?_)
  rw [HW.out.1.2]
  refine wpAnyH_take (i := 0) (oi := _) (v := ?vv0) rfl (by kernel_rfl) (by kernel_rfl) (by kernel_rfl) (fun _ _ _ h => h) (Or.inl ⟨by rfl, ?hyv0⟩) (by assumption) ?restv0
  case hyv0 => (intro V hSw; (try dsimp only at hSw); go_simp) <;> with_reducible rfl
  try simp only [Act.put, List.getElem_toArray, List.getElem_cons_succ, List.getElem_cons_zero, List.setIfInBounds_toArray, List.set_cons_zero, List.set_cons_succ]
  refine wpAnyH_take (i := 2) (oi := _) (v := ?vv2) rfl (by kernel_rfl) (by kernel_rfl) (by kernel_rfl) (fun _ _ _ h => h) (Or.inl ⟨by rfl, ?hyv2⟩) (by assumption) ?restv2
  case hyv2 => (intro V hSw; (try dsimp only at hSw); go_simp) <;> with_reducible rfl
  try simp only [Act.put, List.getElem_toArray, List.getElem_cons_succ, List.getElem_cons_zero, List.setIfInBounds_toArray, List.set_cons_zero, List.set_cons_succ]
  refine wpAnyH_take (i := 4) (oi := _) (v := .slice (some ⟨q, 0, none⟩) 16 16) rfl (by kernel_rfl) (by kernel_rfl) (by kernel_rfl) (fun _ _ _ h => h) (Or.inl ⟨by rfl, ?hyv4⟩) (by assumption) ?restv4
  case hyv4 => intro V hSw; have hsl := HSL.out V; go_simp
  try simp only [Act.put, List.getElem_toArray, List.getElem_cons_succ, List.getElem_cons_zero, List.setIfInBounds_toArray, List.set_cons_zero, List.set_cons_succ]
  refine wpAnyH_ready (rs := [1]) (by kernel_rfl) (by simp) ?_
  refine (AllReadyH.cons (o := _) rfl (fun K9 hK => ?_) AllReadyH.nil)
  go_simp
  refine (number_any V1 e HX.out.1).mono ?_
  rintro e1 w2 ⟨p1, rfl, x1, g2⟩
  have H2 := Lib.hid (And.intro x1 g2)
  clear x1 g2
  (try go_wp2_with fail)
  refine hK.out _ _ trivial (fun hHeld => ?_)
  clear hK K9
  try simp only [Act.put, List.getElem_toArray, List.getElem_cons_succ, List.getElem_cons_zero, List.setIfInBounds_toArray, List.set_cons_zero, List.set_cons_succ]
  refine wpAnyH_ready (rs := [3]) (by kernel_rfl) (by simp) ?_
  refine (AllReadyH.cons (o := _) rfl (fun K9 hK => ?_) AllReadyH.nil)
  go_simp
  refine (number_any w2 r HX.out.2.1).mono ?_
  rintro e1 w3 ⟨p2, rfl, x2, g3⟩
  have H3 := Lib.hid (And.intro x2 g3)
  clear x2 g3
  (try go_wp2_with fail)
  refine hK.out _ _ trivial (fun hHeld => ?_)
  clear hK K9
  try simp only [Act.put, List.getElem_toArray, List.getElem_cons_succ, List.getElem_cons_zero, List.setIfInBounds_toArray, List.set_cons_zero, List.set_cons_succ]
  refine wpAnyH_ready (rs := [5]) (by kernel_rfl) (by simp) ?_
  refine (AllReadyH.cons (o := _) rfl (fun K9 hK => ?_) AllReadyH.nil)
  go_simp
  have g5 : w3.grownBy (w3.alloc (.cells #[.slice (some ⟨p1, 0, none⟩) 8 8, .slice (some ⟨p2, 0, none⟩) 8 8, .slice (some ⟨q, 0, none⟩) 16 16] 25)) none := World.grownBy_alloc _ _ none
  have b5 := Blk.new w3 25 #[.slice (some ⟨p1, 0, none⟩) 8 8, .slice (some ⟨p2, 0, none⟩) 8 8, .slice (some ⟨q, 0, none⟩) 16 16]
  obtain ⟨w5, hw5⟩ : ∃ w5, w3.alloc (.cells #[.slice (some ⟨p1, 0, none⟩) 8 8, .slice (some ⟨p2, 0, none⟩) 8 8, .slice (some ⟨q, 0, none⟩) 16 16] 25) = w5 := ⟨_, rfl⟩
  rw [hw5] at g5 b5 ⊢
  have g15 := grown_trans H2.out.2 (grown_trans H3.out.2 g5)
  have HO := Lib.hid (of_is w5 (HW.out.2.grown (grown_trans HB.out.2.1 g15) (by simp)) 7 (some ⟨w3.heap.size, 0, none⟩) 3 3 [b8 e, b8 r, d] rfl (parts3 b5 rfl rfl HX.out.2.2.1 (Nat.le_refl _) (Nat.le_refl _) (Nat.le_refl _) (H2.out.1.grown (grown_trans H3.out.2 g5)) (H3.out.1.grown g5) (row_bytesI w5 q d (by rw [← HX.out.2.2.2]; exact HB.out.2.2.2.2.grown g15 (by simp)))) (by omega) (fun p hp => by
    simp only [List.mem_cons, List.not_mem_nil, or_false] at hp
    rcases hp with rfl | rfl | rfl
    · rw [b8_length]; omega
    · rw [b8_length]; omega
    · rw [HX.out.2.2.1]; omega))
  have HG := Lib.hid (And.intro (HB.out.1.grown g15 (by simp)) (grown_trans HB.out.2.1 g15))
  clear g5 b5 g15 hw5
  refine hK.out _ _ trivial (fun hHeld => ?_)
  clear hK K9
  try simp only [Act.put, List.getElem_toArray, List.getElem_cons_succ, List.getElem_cons_zero, List.setIfInBounds_toArray, List.set_cons_zero, List.set_cons_succ]
  refine wpAnyH_ready (rs := [6]) (by kernel_rfl) (by simp) ?_
  refine (AllReadyH.cons (o := _) rfl (fun K9 hK => ?_) AllReadyH.nil)
  go_simp
  refine HO.out.mono ?_
  rintro e1 w6 ⟨rfl, g6⟩
  rw [show arrV .u8 (ofS 7 [b8 e, b8 r, d]) = F from HF.out.1]
  have HB3 := Lib.hid (And.intro (HG.out.1.grown g6 (by simp)) (grown_trans HG.out.2 g6))
  clear g6
  (try go_wp2_with fail)
  refine hK.out _ _ trivial (fun hHeld => ?_)
  clear hK K9
  try simp only [Act.put, List.getElem_toArray, List.getElem_cons_succ, List.getElem_cons_zero, List.setIfInBounds_toArray, List.set_cons_zero, List.set_cons_succ]
  refine wpAnyH_ready (rs := [7]) (by kernel_rfl) (by simp) ?_
  refine (AllReadyH.cons (o := _) rfl (fun K9 hK => ?_) AllReadyH.nil)
  refine ready_store_mid (by rfl) 32 _ _ rfl (q + 1) 0 F rfl rfl (there_blk HB3.out.1 (by rw [HF.out.2.1, HB.out.2.2.1]; exact Nat.le_refl _)) (by rw [HF.out.2.1]; exact info16) HF.out.2.2 ?_
  rw [setCells_row (P := Tryd.prog) (ty := 32) HB3.out.1 (by rw [HF.out.2.1]; exact info16) (by rw [HF.out.2.1, HB.out.2.2.1]) HF.out.2.2]
  refine hK.out _ _ trivial (fun hHeld => ?_)
  clear hK K9
  try simp only [Act.put, List.getElem_toArray, List.getElem_cons_succ, List.getElem_cons_zero, List.setIfInBounds_toArray, List.set_cons_zero, List.set_cons_succ]
  refine wpAnyH_done (by kernel_rfl) ?_ _
  go_wp2_with fail
  refine bodyPost_ret (results_cell rfl _ _ _ ⟨q + 1, 0, none⟩ (.agg F) rfl (run_loadVar_row _ (q + 1) 32 32 _ (0, 0) _ (HB3.out.1.row _) Tryd.underlying32 rfl (by rw [HF.out.2.1]; exact info16))) rfl ?_
  exact ⟨by rw [HF.out.1], grown_row HB3.out.2 (.inl (by rw [HB.out.2.2.2.1]; omega)) _⟩
end
end Go.Proofs.YtlokjbjpmhfkhaaDoor
/-
  proofs.votes: what a QC claims, as an iterator.
-/
namespace Go.Proofs.YtlokjbjpmhfkhaaDoor
open Go.RowKit Go.Shelf

attribute [local go_sem] Oper.semAt_some

def Sg.claim (D : Array Value) (s : Sg) : Array Value := clC s.who D s.lf (.slice s.A1 s.n1 s.c1) (.slice s.A2 s.n2 s.c2)
theorem info4s : (Tryd.prog.info? 53).map (·.size) = some 4 := by kernel_rfl
theorem info3s : (Tryd.prog.info? 51).map (·.size) = some 3 := by kernel_rfl
theorem zs_run (w : World) : Sem.run Tryd.prog (zeroValue 53) w = .ok (.agg sZ) w := zero_run w (by kernel_rfl)
/-- What a round keeps: the blocks that were there ahead, and every digest's block. -/
def KpV (n₀ : Nat) (A B : World) : Prop := Below n₀ A B ∧ ∀ (k : Nat) (cs : Array Value) (fr : Nat × Nat), A.heap[k]? = some (Obj.cells cs 32 fr) → B.heap[k]? = some (Obj.cells cs 32 fr)
theorem KpV.trans {n₀ : Nat} {A B C : World} (h : KpV n₀ A B) (k : KpV n₀ B C) : KpV n₀ A C := ⟨h.1.trans k.1, fun i cs fr hi => k.2 i cs fr (h.2 i cs fr hi)⟩
theorem KpV.grown {n₀ : Nat} {A B : World} (h : A.grownBy B none) (hn : n₀ ≤ A.heap.size) : KpV n₀ A B :=
  ⟨below_grown h hn (fun _ e => by cases e), fun k cs fr hk => (h.block k (Array.getElem?_eq_some_iff.1 hk).1 (fun e => by cases e)).trans hk⟩
theorem cl_build (w : World) (who lf : Int) (D : Array Value) (h : D.size = 16) (s1 s2 : Value) : Sem.run Tryd.prog (Instr.build 82 #[(0, .int .i64 who), (1, .agg D), (2, .agg (sigV lf s1 s2))]) w = .ok (.agg (clC who D lf s1 s2)) w := by
  obtain ⟨a0, a1, a2, a3, a4, a5, a6, a7, a8, a9, a10, a11, a12, a13, a14, a15, rfl⟩ := arr16p D h
  refine run_build w 82 _ _ ?_
  kernel_rfl

def intV : Value → Int | .int _ q => q | _ => 0
theorem votes_in (F : Fence) (m : Nat) (qv : Array Value) (w : World) (h : F = Fence.wide) : CallsIn F m Tryd.prog 24 #[.agg qv] w fun e w' => e = .returned (.func (.func 36) #[] #[.pointer (some ⟨w.heap.size, 0, none⟩)]) ∧
      w' = w.alloc (.cells qv 39) := by
  subst h
  refine callsIn_of_wp Tryd.func24 rfl trivial ?_ rfl
  simp only [Tryd.ntmps24, List.size_toArray, List.length_cons, List.length_nil, Nat.reduceAdd, Nat.reduceSub, Array.replicate_succ, Array.replicate_zero, List.push_toArray, List.append_toArray, List.nil_append, List.cons_append]
  gi_wp2
  go_ret
  exact ⟨rfl, rfl⟩

set_option maxRecDepth 100000 in
set_option maxHeartbeats 2000000 in
theorem votes1_in (m l q n₀ : Nat) (e r : Int) (he : -9223372036854775808 ≤ e ∧ e < 9223372036854775808) (hr : -9223372036854775808 ≤ r ∧ r < 9223372036854775808) (Bl : List Int) (hBl : isDig Bl) (Bv : Array Value) (hBv : Bv = arrV .u8 Bl) (A2 : Option Addr) (c2 : Nat) (L : List Sg) (hl : L.length ≤ 1000) (D : Array Value) (hD : D = arrV .u8 (forV e r Bl))
    (J Jx : List Sg → World → Prop) (hm : 2 ≤ m) (W : World) (hJ : AbidesFrom W.heap.size J)
    (hY : ∀ pre x V, J pre V → L[pre.length]? = some x → YieldAt Fence.wide (m - 1) Tryd.prog l #[.agg (x.claim D)] V fun e V' =>
      (e = .returned (.bool true) ∧ J (pre ++ [x]) V' ∧ KpV n₀ V V') ∨ (e = .returned (.bool false) ∧ Jx (pre ++ [x]) V'))
    (hq : Blk W q 39 (qcC e r Bv (.slice A2 L.length c2))) (hn : n₀ ≤ W.heap.size) (hR : Rounds W) (hA : SgsAt W A2 L) (hAn : ∀ a, A2 = some a → L ≠ [] → a.block < n₀) (h0 : J [] W) :
    CallsIn Fence.wide m Tryd.prog 36 #[.func (.yield l) #[] #[], .pointer (some ⟨q, 0, none⟩)] W fun e W' => (∃ v, e = .returned v) ∧
      ((∃ ys, ys = L ∧ J ys W') ∨ (∃ pre, True ∧ Jx pre W')) := by
  obtain ⟨Z16, hZ16⟩ : ∃ Z, Z = arrV .u8 (List.replicate 16 0) := ⟨_, rfl⟩
  have hz16 : ∀ w, Sem.run Tryd.prog (zeroValue 32) w = .ok (.agg Z16) w := fun w => by rw [hZ16]; exact z16run w
  have hz4 := zs_run
  have hB16 : Bv.size = 16 := by rw [hBv, arr_size, hBl.1]
  have hD16 : D.size = 16 := by rw [hD, arr_size]; exact (ofS_dig _ _).1
  have hD1 : (D.all fun v => v.oneCell') = true := by rw [hD]; exact arr_one _ _
  have hZ : Z16.size = 16 := by rw [hZ16]; rfl
  obtain ⟨x0, x1, x2, x3⟩ := qc_cells hB16 hq
  obtain ⟨n, hLn⟩ : ∃ n, L.length = n := ⟨_, rfl⟩
  rw [hLn] at x3
  have HF := Lib.hid (forV_is W hR e r he hr Bl hBl Bv hBv)
  have HX := Lib.hid (And.intro x2 (And.intro hB16 (And.intro hD (And.intro hD16 (And.intro hD1 hZ)))))
  have H0 := Lib.hid h0
  have HJ := Lib.hid hJ
  have HY := Lib.hid hY
  have HL := Lib.hid (And.intro hl (And.intro hA (And.intro hAn (And.intro hn hLn))))
  clear hZ16 hB16 hD16 hD1 hZ hD hBv hR he hr hBl x2 h0 hJ hY hl hA hAn hn hLn hq
  refine callsIn_of_wp Tryd.func36 rfl trivial ?_ rfl
  simp only [Tryd.ntmps36, List.size_toArray, List.length_cons, List.length_nil, Nat.reduceAdd, Nat.reduceSub, Array.replicate_succ, Array.replicate_zero, List.push_toArray, List.append_toArray, List.nil_append, List.cons_append]
  gi_wp2_with (first
    | (refine wpListIn_load_mid rfl 32 _ rfl q 2 rfl Bv.toList _ HX.out.1 Tryd.underlying32 rfl (by rw [Array.length_toList, HX.out.2.1]; exact info16g) ?_; rw [Array.toArray_toList]))
  refine ⟨trivial, fun _ => by omega, ?_⟩
  refine (callsIn_wide.2 HF.out).mono ?_
  rintro e1 w2 ⟨rfl, g2⟩
  rw [← HX.out.2.2.1]
  have G2 := Lib.hid g2
  have xv := g2.cell x3 (by simp)
  clear g2 x0 x1 x3
  obtain ⟨w3, hw3⟩ : ∃ w3, w3 = (w2.alloc (.cells Z16 32)).setRow w2.heap.size D := ⟨_, rfl⟩
  obtain ⟨db, hdb⟩ : ∃ db, db = w2.heap.size := ⟨_, rfl⟩
  have H3 := Lib.hid (show Blk w3 db 32 D ∧ W.grownBy w3 none ∧ W.heap.size ≤ db from by
    rw [hw3, hdb]
    have g3 := grown_row (World.grownBy_alloc w2 (.cells Z16 32) none) (.inl (Nat.le_refl _)) D
    exact ⟨(Blk.new w2 32 Z16).row D, grown_trans G2.out g3, G2.out.size⟩)
  have xv3 : w3.cell? ⟨q, 18, none⟩ = some (.slice A2 n c2) := by
    have g3 : w2.grownBy w3 none := by rw [hw3]; exact grown_row (World.grownBy_alloc w2 (.cells Z16 32) none) (.inl (Nat.le_refl _)) D
    exact g3.cell xv (by simp)
  have HW3 := Lib.hid (And.intro hw3 hdb)
  clear xv hw3 hdb
  gi_wp2_with (first
    | (refine wpListIn_store_row rfl 32 _ _ rfl w2.heap.size D rfl rfl 32 _ (heap_alloc_new w2 _) (by rw [HX.out.2.2.2.1]; exact info16g) (by rw [HX.out.2.2.2.1, HX.out.2.2.2.2.2]) HX.out.2.2.2.2.1 ?_
       rw [← HW3.out.1, ← HW3.out.2]))
  gi_loopw [16] (fun i wr => ∃ k : Nat, k ≤ n ∧ i = .int .i64 (k : Int) ∧ J (L.take k) wr ∧ Below n₀ W wr ∧ Blk wr db 32 D ∧ W.heap.size ≤ wr.heap.size) (fun i _ => n - (intV i).toNat)
  case atStart => exact ⟨0, Nat.zero_le _, rfl, by simpa using HJ.out _ _ _ none H0.out H3.out.2.1 (fun _ e => by cases e), below_grown H3.out.2.1 HL.out.2.2.2.1 (fun _ e => by cases e), H3.out.1, H3.out.2.1.size⟩
  case round =>
    obtain ⟨k, hkl, hi, hJk, hK, hDb, hsz⟩ := hrel
    obtain ⟨I, hI⟩ : ∃ I : Int, I = (k : Int) := ⟨_, rfl⟩
    rw [← hI] at hi
    subst hi
    clear xv3
    obtain ⟨hl, hA, hAn, hn, hLn⟩ := HL.out
    by_cases hlt : k < n
    · have hlt' : k < L.length := by omega
      have hne : L ≠ [] := by rintro rfl; simp at hlt'
      obtain ⟨b, off, rfl, hc⟩ := hA hne
      have hbn : b < n₀ := hAn _ rfl hne
      have d1 : decide (I < (n : Int)) = true := by simp; omega
      have hIV : I < (n : Int) := by omega
      have hI0 : 0 ≤ I ∧ I < 1000 := by omega
      have hkI : I.toNat = k := by omega
      have r1 := range_below (hc k hlt') hK hbn
      obtain ⟨x, hxe⟩ : ∃ x, x = L[k] := ⟨_, rfl⟩
      rw [← hxe] at r1
      rw [← hkI] at r1
      have htake : L.take (k + 1) = L.take k ++ [x] := by rw [← List.take_append_getElem hlt', hxe]
      obtain ⟨cs, hcs⟩ : ∃ cs, cs = x.cells := ⟨_, rfl⟩
      have hc4 : cs.size = 4 := by rw [hcs]; rfl
      have hc1 : (cs.all fun v => v.oneCell') = true := by rw [hcs]; exact sg_one x
      rw [← hcs] at r1
      obtain ⟨W0, hW0⟩ : ∃ W0, W0 = (wr.alloc (.cells sZ 53)).setRow wr.heap.size cs := ⟨_, rfl⟩
      have hG0 : wr.grownBy W0 none := by rw [hW0]; exact grown_row (World.grownBy_alloc wr _ none) (.inl (Nat.le_refl _)) cs
      have bS : Blk W0 wr.heap.size 53 cs := by rw [hW0]; exact (Blk.new wr 53 sZ).row cs
      have rS := range_blk bS
      have c0 : W0.cell? ⟨wr.heap.size, 0, none⟩ = some (.int .i64 x.who) := by have := rS 0 (.int .i64 x.who) (by rw [hcs]; rfl); simpa using this
      have rg : W0.rangeAt wr.heap.size 1 x.sig.toList := by
        rw [show cs.toList = [.int .i64 x.who] ++ (x.sig.toList ++ []) by rw [hcs]; simp [Sg.cells]] at rS
        have := range_part rS
        rwa [Nat.zero_add] at this
      have bD := hDb.grown hG0 (by simp)
      have hJ0 := HJ.out _ _ _ none hJk hG0 (fun _ e => by cases e)
      have hlen : L[(L.take k).length]? = some x := by rw [List.length_take, Nat.min_eq_left (by omega), hxe]; exact List.getElem?_eq_getElem hlt'
      obtain ⟨fn, tmps, assign, body, hy, hRd⟩ := HY.out _ x W0 hJ0 hlen
      have HC := Lib.hid (And.intro hc4 (And.intro hc1 (And.intro r1 (And.intro rg bD))))
      have HN := Lib.hid (And.intro hK (And.intro hG0 (And.intro hI (And.intro hsz (And.intro hlt (And.intro htake (And.intro hDb hn)))))))
      have HW := Lib.hid hW0
      obtain ⟨who, hwho⟩ : ∃ who, who = x.who := ⟨_, rfl⟩
      have hcl : x.claim D = clC who D x.lf (.slice x.A1 x.n1 x.c1) (.slice x.A2 x.n2 x.c2) := by rw [hwho]; rfl
      have hsg : x.sig = sigV x.lf (.slice x.A1 x.n1 x.c1) (.slice x.A2 x.n2 x.c2) := rfl
      rw [← hwho] at c0
      have HB := Lib.hid (fun V => cl_build V who x.lf D HX.out.2.2.2.1 (.slice x.A1 x.n1 x.c1) (.slice x.A2 x.n2 x.c2))
      rw [← hcl, ← hsg] at HB
      obtain ⟨cl, hce⟩ : ∃ cl, cl = x.claim D := ⟨_, rfl⟩
      obtain ⟨sg, hse⟩ : ∃ sg, sg = x.sig := ⟨_, rfl⟩
      rw [← hce, ← hse] at HB
      rw [← hce] at hy
      have HSE := Lib.hid hse
      clear r1 rg bD hxe htake hcs hc4 hc1 hG0 bS rS hJ0 hlen hJk hc hne hbn hI hkI hkl hlt hlt' hK hsz hW0 hl hA hAn hn hLn hDb hwho hcl hsg hce hse
      gi_upto_region 5 with (first
        | (refine wpListIn_load_mid rfl 53 _ rfl b (off + I.toNat * 4) rfl cs.toList _ HC.out.2.2.1 Tryd.underlying53 rfl (by rw [Array.length_toList, HC.out.1]; exact info4s) ?_; rw [Array.toArray_toList])
        | (refine wpListIn_store_row rfl 53 _ _ rfl wr.heap.size cs rfl rfl 53 _ (heap_alloc_new wr _) (by rw [HC.out.1]; exact info4s) (by rw [HC.out.1]; rfl) HC.out.2.1 ?_
           rw [← HW.out])
        | (refine wpListIn_load_row rfl 32 _ rfl db rfl 32 D (0, 0) _ HC.out.2.2.2.2 Tryd.underlying32 rfl (by rw [HX.out.2.2.2.1]; exact info16g) ?_)
        | (refine wpListIn_load_mid rfl 51 _ rfl wr.heap.size 1 rfl x.sig.toList _ HC.out.2.2.2.1 Tryd.underlying51 rfl (by exact info3s) ?_; rw [Array.toArray_toList, ← HSE.out])
        | (refine wpListIn_build_run rfl _ _ rfl (.agg cl) (by simp [Act.eval]; exact HB.out W0) ?_))
      refine ⟨fun _ => by omega, ?_⟩
      refine hRd.mono ?_
      rintro e3 W3 (⟨rfl, hJ3, hk3⟩ | ⟨rfl, hJx3⟩)
      · have H3' := Lib.hid (And.intro hJ3 hk3)
        clear hJ3 hk3
        gi_wp2
        go_roundw
        case rel =>
          obtain ⟨n1, n2, n3, n4, n5, n6, n7, n8⟩ := HN.out
          refine ⟨k + 1, by omega, by rw [n3]; rfl, by rw [n6]; exact H3'.out.1, Below.trans' (below_grown n2 (by omega) (fun _ e => by cases e)) n1 H3'.out.2.1, H3'.out.2.2 _ _ _ (n7.grown n2 (by simp)), Nat.le_trans n4 (Nat.le_trans n2.size H3'.out.2.1.size)⟩
        case measure => obtain ⟨n1, n2, n3, n4, n5, n6, n7, n8⟩ := HN.out; simp [intV]; omega
      · have H3' := Lib.hid hJx3
        clear hJx3
        gi_wp2
        refine bodyPost_ret (results_none rfl _ _ _) rfl ?_
        exact ⟨⟨_, rfl⟩, .inr ⟨_, trivial, H3'.out⟩⟩
    · have d1 : decide (I < (n : Int)) = false := by simp; omega
      obtain rfl : k = n := by omega
      rw [← hLn, List.take_length] at hJk
      have HJk := Lib.hid hJk
      clear hlt hI hkl hJk hK hsz hl hA hAn hn hLn hDb
      gi_wp2
      go_end0
      exact ⟨⟨_, rfl⟩, .inl ⟨_, rfl, HJk.out⟩⟩
theorem votes_seq (m q n₀ : Nat) (e r : Int) (he : -9223372036854775808 ≤ e ∧ e < 9223372036854775808) (hr : -9223372036854775808 ≤ r ∧ r < 9223372036854775808) (Bl : List Int) (hBl : isDig Bl) (Bv : Array Value) (hBv : Bv = arrV .u8 Bl) (A2 : Option Addr) (c2 : Nat) (L : List Sg) (hl : L.length ≤ 1000) (D : Array Value) (hD : D = arrV .u8 (forV e r Bl))
    (hm : 2 ≤ m) (w : World) (hq : Blk w q 39 (qcC e r Bv (.slice A2 L.length c2))) (hn : n₀ ≤ w.heap.size) (hR : Rounds w) (hA : SgsAt w A2 L) (hAn : ∀ a, A2 = some a → L ≠ [] → a.block < n₀) :
    SeqTold Fence.wide m Tryd.prog 36 #[.pointer (some ⟨q, 0, none⟩)] (fun x : Sg => #[.agg (x.claim D)]) (fun _ => KpV n₀) (fun pre _ x _ => L[pre.length]? = some x) (fun ys => ys = L) (fun _ => True) w := fun l J Jx W hW hJ _ hY h0 => by
  have g := grown_below0 hW
  exact votes1_in m l q n₀ e r he hr Bl hBl Bv hBv A2 c2 L hl D hD J Jx hm W hJ hY (hq.grown g (by simp)) (Nat.le_trans hn g.size) (hR.grown g (by simp)) (hA.grown g) hAn h0
end Go.Proofs.YtlokjbjpmhfkhaaDoor
