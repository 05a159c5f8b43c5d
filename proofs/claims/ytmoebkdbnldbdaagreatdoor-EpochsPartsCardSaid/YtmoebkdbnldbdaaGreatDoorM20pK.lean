/-
  Several texts in one: DkY, GdO, Pf8, Pf9.
-/
import Derived.Test.YtmoebkdbnldbdaaGreatDoorM20pJ
import Derived.Test.YtmoebkdbnldbdaaGreatDoorM20pj
import Derived.Test.YtmoebkdbnldbdaaGreatDoorM20pI
import Derived.Test.YtmoebkdbnldbdaaGreatDoorM20pk
import Derived.Test.YtmoebkdbnldbdaaGreatDoorM20pH
import Derived.Test.YtmoebkdbnldbdaaGreatDoorM20pp
import Derived.Test.YtmoebkdbnldbdaaGreatDoorM20pr
import Derived.Test.YtmoebkdbnldbdaaGreatDoorM20pq
import Derived.Test.YtmoebkdbnldbdaaGreatDoorM20pB
/-
  Disk: Sync.
-/
namespace Go.Proofs.YtmoebkdbnldbdaaGreatDoor
open Go.RowKit Go.Maps

theorem sameKey_int (a b : Int) : (Lit.int .i64 a).sameKey (.int .i64 b) = decide (a = b) := by
  by_cases h : a = b
  · subst h; simp [Lit.sameKey]
  · rw [sameKey_ne (fun e => h (by injection e))]; simp [h]
theorem setCells_cons (w : World) (b o : Nat) (v : Value) (r : List Value) : w.setCells b o (v :: r) = (w.setCell ⟨b, o, none⟩ v).setCells b (o + 1) r := rfl
theorem lay_consK21 {α : Type} (cs : List α) (o : Nat) (v : α) (vs : List α) (h : o + (v :: vs).length ≤ cs.length) : (cs.set o v).take (o + 1) ++ vs ++ (cs.set o v).drop (o + 1 + vs.length) = cs.take o ++ (v :: vs) ++ cs.drop (o + (v :: vs).length) := by
  rw [List.length_cons] at h ⊢
  have e1 : (cs.set o v).take (o + 1) = cs.take o ++ [v] := by
    rw [List.take_add_one, List.take_set_of_le (Nat.le_refl _), List.getElem?_set_self (by omega)]; rfl
  rw [e1, List.drop_set_of_lt (by omega), show o + 1 + vs.length = o + (vs.length + 1) by omega]
  simp
theorem blk_setCells (b : Nat) (t : TypeId) : ∀ (vs : List Value) (o : Nat) (w : World) (cs : List Value), Blk w b t cs.toArray → o + vs.length ≤ cs.length → Blk (w.setCells b o vs) b t (cs.take o ++ vs ++ cs.drop (o + vs.length)).toArray
  | [], o, w, cs, h, hl => by simpa [World.setCells] using h
  | v :: vs, o, w, cs, h, hl => by
    rw [setCells_cons, ← lay_consK21 cs o v vs hl]
    refine blk_setCells b t vs (o + 1) _ _ ?_ (by rw [List.length_set]; rw [List.length_cons] at hl; omega)
    simpa using h.set o v
theorem grown_cells {w : World} (b : Nat) : ∀ (vs : List Value) (o : Nat) (w1 : World), w.grownBy w1 (some b) → w.grownBy (w1.setCells b o vs) (some b)
  | [], _, _, h => h
  | v :: r, o, w1, h => by
    rw [setCells_cons]
    exact grown_cells b r (o + 1) _ (grown_far h (.inr rfl) v)
def rowsC (S : List (List Int)) : List Value := S.flatMap fun r => r.map (Value.int .u8)
theorem rowsC_len : ∀ (S : List (List Int)), (∀ r ∈ S, r.length = 64) → (rowsC S).length = S.length * 64
  | [], _ => rfl
  | a :: S, h => by
    have := rowsC_len S (fun r hr => h r (List.mem_cons_of_mem _ hr))
    have h0 := h a List.mem_cons_self
    simp only [rowsC, List.flatMap_cons, List.length_append, List.length_map, List.length_cons] at this ⊢
    omega
theorem rowsC_set : ∀ (S : List (List Int)) (_ : ∀ r ∈ S, r.length = 64) (k : Nat) (_ : k < S.length) (r : List Int) (_ : r.length = 64), rowsC (S.set k r) = (rowsC S).take (k * 64) ++ r.map (Value.int .u8) ++ (rowsC S).drop (k * 64 + (r.map (Value.int .u8)).length)
  | a :: S, h, 0, _, r, hr => by
    have h0 : (a.map (Value.int .u8)).length = 64 := by simpa using h a List.mem_cons_self
    rw [List.length_map, hr]
    simp only [rowsC, List.set_cons_zero, List.flatMap_cons, Nat.zero_mul, List.take_zero, List.nil_append, Nat.zero_add]
    rw [List.drop_append_of_le_length (by omega), List.drop_of_length_le (by omega)]; rfl
  | a :: S, h, k + 1, hk, r, hr => by
    have h0 : (a.map (Value.int .u8)).length = 64 := by simpa using h a List.mem_cons_self
    have ih := rowsC_set S (fun r hr => h r (List.mem_cons_of_mem _ hr)) k (by simpa using hk) r hr
    simp only [rowsC, List.set_cons_succ, List.flatMap_cons] at ih ⊢
    rw [ih, show (k + 1) * 64 = (a.map (Value.int .u8)).length + k * 64 by omega, Nat.add_assoc, List.take_length_add_append, List.drop_length_add_append]
    simp only [List.append_assoc]
theorem wpListIn_clear_own {H : Type} {F : Fence} {n : Nat} {P : Program} (w : World) {ops : Array Oper} {rest : List Oper} {o : Oper} {a : Act} {Q : Exit → Act → World → Prop}
    (hg : o.guard = none) (x : Operand) (t : TypeId) (hop : o.op = Op.call { callee := Callee.builtin Builtin.clear, args := #[x], argTypes := #[t] })
    (k e : TypeId) (ht : P.underlying t = some (.map k e)) (R : Value → Option (DataW Unit × List MemPlace)) (b nn : Nat) (D : DataW Unit) (hm : a.eval x = .map (some b)) (hown : w.ownsMap P k R b nn D)
    (hK : ∀ w', w'.ownsMap P k R b 0 (.map []) → w.mapTurned w' b → wpListIn F n P ops Q rest (a.put o.dst (.tuple #[])) w') :
    wpListIn F n P ops Q (o :: rest) a w := by
  refine wpListIn_plain hg fun K' hK' => ?_
  obtain ⟨w', hrun, h1, h2⟩ := clear_own hown ht o.type
  unfold Oper.wpIn
  refine ⟨?_, ?_⟩
  · simp [Oper.about, hop, resolve, Target.leads, Sem.run_pure]
  · rw [Oper.semAt_plain F _ _ (by rw [hop]; intro c hc'; cases hc')]
    simp [execOp, hop, resolve, invoke, builtin, hm, hrun, Result.andThen]
    exact hK' _ _ (hK w' h1 h2)
theorem ready_store_mid {P : Program} {ops : Array Oper} {o : Oper} {a : Act} {w : World} {K : Act → World → Prop} {Q : Exit → Act → World → Prop} (hw : Region.wanted o (yielded ops a.tmps) = true) (ty : TypeId) (x y : Operand) (ho : o.op = .store ty x y)
    (b off : Nat) (cells : Array Value) (hx : a.eval x = .pointer (some ⟨b, off, none⟩)) (hy : a.eval y = .agg cells)
    (ht : w.there b off cells.size) (hi : (P.info? ty).map (·.size) = some cells.size) (h1 : cells.all (·.oneCell') = true)
    (h : K (a.put o.dst undef) (w.setCells b off cells.toList)) : if Region.wanted o (yielded ops a.tmps) = true then Oper.wp P o a w K Q else K (a.put o.dst undef) w := by
  rw [if_pos hw]
  unfold Oper.wp execOp
  simp only [ho, hx, hy, Sem.run_bind, Sem.run_pure, Result.andThen_ok, run_storeAt_mid w b off ty cells ht hi h1]
  exact h
theorem mgS_id {syn : List (List Int)} {wr : List (Option (List Int))} {p : Nat → Bool} (h : ∀ i, i < syn.length → p i = true → wr[i]?.join = none) : mgS syn wr p = syn := by
  refine List.ext_getElem (mgS_length _ _ _) (fun i h1 h2 => ?_)
  rw [mgS_at h1]
  have e : syn.getD i [] = syn[i] := by simp [List.getD, List.getElem?_eq_getElem h2]
  cases hp : p i with
  | false => simpa using e
  | true => rw [h i h2 hp, e]; rfl
theorem mapOf_at {D : DataW Unit} {wr : List (Option (List Int))} (h : MapOf D wr) {x : Int} {y : DataW Unit} (hx : has D (.int .i64 x) = true) (hy : ∀ zd, D.atKey (.int .i64 x) zd = y) : ∃ i : Nat, ∃ r, x = (i : Int) ∧ i < wr.length ∧ wr[i]? = some (some r) ∧ y = secD r := by
  obtain ⟨i, hi, rfl⟩ := h.2.1 x hx
  rw [mapOf_has h hi] at hx
  obtain ⟨r, hr⟩ := Option.isSome_iff_exists.1 hx
  exact ⟨i, r, rfl, hi, by rw [List.getElem?_eq_getElem hi, hr], by rw [← hy (.map []), ((h.2.2 i hi).2 r hr).2]⟩
theorem wpIn_normal {F : Fence} {n : Nat} {P : Program} {c : Code} {Q : Exit → Act → World → Prop} {a : Act} {w : World} (h : Code.wpIn F n P c (fun e a' w' => e = .normal ∧ Q e a' w') a w) : Code.wpIn F n P c Q a w :=
  wpIn_mono h (by rintro e a' w' ⟨rfl, h⟩; exact h)
def syncS (z : DkS) : DkS := { z with syn := mgS z.syn z.wr (fun _ => true), wr := List.replicate z.wr.length none }
end Go.Proofs.YtmoebkdbnldbdaaGreatDoor
/-
  Codec: what is signed for votes, late words and proposals.
-/
namespace Go.Proofs.YtmoebkdbnldbdaaGreatDoor
open Go.RowKit

def forV (e r : Int) (d : List Int) : List Int := ofS 7 [b8 e, b8 r, d]
def forL (e r h : Int) : List Int := ofS 8 [b8 e, b8 r, b8 h]
def forP (d : List Int) : List Int := ofS 9 [d]
theorem parts3 {w : World} {q : Nat} {A B C : Option Addr} {n1 c1 n2 c2 n3 c3 : Nat} {x y z : List Int} (h : Blk w q 61 #[.slice A n1 c1, .slice B n2 c2, .slice C n3 c3]) (h1 : x.length = n1) (h2 : y.length = n2) (h3 : z.length = n3) (l1 : n1 ≤ c1) (l2 : n2 ≤ c2) (l3 : n3 ≤ c3) (b1 : BytesI w A x) (b2 : BytesI w B y) (b3 : BytesI w C z) : PartsI w (some ⟨q, 0, none⟩) [x, y, z] := fun j hj => by
  have hj3 : j = 0 ∨ j = 1 ∨ j = 2 := by have : j < 3 := hj; omega
  have e := h.cell j
  rw [show (⟨q, j, none⟩ : Addr) = (⟨q, 0, none⟩ : Addr).add j by rw [Go.WideShapes.add_plain, Nat.zero_add]] at e
  rcases hj3 with rfl | rfl | rfl
  · exact ⟨_, A, n1, c1, rfl, e, h1, l1, b1⟩
  · exact ⟨_, B, n2, c2, rfl, e, h2, l2, b2⟩
  · exact ⟨_, C, n3, c3, rfl, e, h3, l3, b3⟩
theorem parts1 {w : World} {q : Nat} {A : Option Addr} {n1 c1 : Nat} {x : List Int} (h : Blk w q 61 #[.slice A n1 c1]) (h1 : x.length = n1) (l1 : n1 ≤ c1) (b1 : BytesI w A x) : PartsI w (some ⟨q, 0, none⟩) [x] := fun j hj => by
  obtain rfl : j = 0 := by have : j < 1 := hj; omega
  have e := h.cell 0
  rw [show (⟨q, 0, none⟩ : Addr) = (⟨q, 0, none⟩ : Addr).add 0 by rw [Go.WideShapes.add_plain]] at e
  exact ⟨_, A, n1, c1, rfl, e, h1, l1, b1⟩
theorem number_any (w : World) (n : Int) (hn : -9223372036854775808 ≤ n ∧ n < 9223372036854775808) :
    Calls Tryz.prog 90 #[.int .i64 n] w fun e w' => ∃ p, e = .returned (.slice (some ⟨p, 0, none⟩) 8 8) ∧ BytesI w' (some ⟨p, 0, none⟩) (b8 n) ∧ w.grownBy w' none :=
  (number_is w n hn).mono fun _ _ h => ⟨_, h⟩
section
variable (w : World) (hR : Rounds w)
include hR
set_option maxRecDepth 100000 in
set_option maxHeartbeats 1000000 in
theorem forV_is (e r : Int) (he : -9223372036854775808 ≤ e ∧ e < 9223372036854775808) (hr : -9223372036854775808 ≤ r ∧ r < 9223372036854775808) (d : List Int) (hd : isDig d) (dd : Array Value) (hdd : dd = arrV .u8 d) :
    Calls Tryz.prog 74 #[.int .i64 e, .int .i64 r, .agg dd] w fun e' w' => e' = .returned (.agg (arrV .u8 (forV e r d))) ∧ w.grownBy w' none := by
  obtain ⟨Z16, hZ16⟩ : ∃ Z, Z = arrV .u8 (List.replicate 16 0) := ⟨_, rfl⟩
  have hz16 : ∀ w, Sem.run Tryz.prog (zeroValue 24) w = .ok (.agg Z16) w := fun w => by rw [hZ16]; exact z16run w
  obtain ⟨q, hq⟩ : ∃ q, w.heap.size = q := ⟨_, rfl⟩
  obtain ⟨w1, hw1⟩ : ∃ w1, (w.alloc (.cells dd 24)).alloc (.cells Z16 24) = w1 := ⟨_, rfl⟩
  have b1 : Blk w1 q 24 dd := by rw [← hw1, ← hq]; exact (Blk.new w _ _).alloc _
  have b2 : Blk w1 (q + 1) 24 Z16 := by
    have h := Blk.new (w.alloc (.cells dd 24)) 24 Z16
    rw [World.size_alloc, hw1, hq] at h
    exact h
  have g1 : w.grownBy w1 none := by rw [← hw1]; exact grown_trans (World.grownBy_alloc _ _ none) (World.grownBy_alloc _ _ none)
  obtain ⟨V1, hV1⟩ : ∃ V1, w1.drew = V1 := ⟨_, rfl⟩
  have hb : Blk V1 (q + 1) 24 Z16 ∧ w.grownBy V1 none ∧ Blk V1 q 24 dd := by rw [← hV1]; exact ⟨b2.drew, grown_drew g1, b1.drew⟩
  have HB := Lib.hid (And.intro hb.1 (And.intro hb.2.1 (And.intro (show Z16.size = 16 by rw [hZ16]; rfl) (And.intro hq hb.2.2))))
  have HW := Lib.hid (And.intro (And.intro hw1 hV1) hR)
  have HSL := Lib.hid (fun V : World => dig_slice V q)
  obtain ⟨F, hF⟩ : ∃ F, arrV .u8 (forV e r d) = F := ⟨_, rfl⟩
  have hFz : F.size = 16 := by rw [← hF, arr_size]; exact ofS_length _ _
  have hFo : (F.all fun v => v.oneCell') = true := by rw [← hF]; exact arr_one _ _
  have HF := Lib.hid (And.intro hF (And.intro hFz hFo))
  have HX := Lib.hid (And.intro he (And.intro hr (And.intro hd.1 hdd)))
  clear hR hZ16 b1 b2 g1 hw1 hV1 hF hFz hFo he hr hd hdd hb
  go_enter Tryz.func74, Tryz.ntmps74
  go_wp2_with fail
  clear hz16
  rw [HW.out.1.1]
  refine wp_region_held_drew (S := fun V => True) (by kernel_rfl) trivial (fun hHeld => ?_)
  rw [HW.out.1.2]
  refine wpAnyH_take (i := 0) (oi := _) (v := ?vv0) rfl (by kernel_rfl) (by kernel_rfl) (by kernel_rfl) (fun _ _ _ h => h) (Or.inl ⟨by rfl, ?hyv0⟩) (by assumption) ?restv0
  case hyv0 => (intro V hSw; (try dsimp only at hSw); go_simp) <;> with_reducible rfl
  try simp only [Act.put, List.getElem_toArray, List.getElem_cons_succ, List.getElem_cons_zero, List.setIfInBounds_toArray, List.set_cons_zero, List.set_cons_succ]
  refine wpAnyH_take (i := 2) (oi := _) (v := ?vv2) rfl (by kernel_rfl) (by kernel_rfl) (by kernel_rfl) (fun _ _ _ h => h) (Or.inl ⟨by rfl, ?hyv2⟩) (by assumption) ?restv2
  case hyv2 => (intro V hSw; (try dsimp only at hSw); go_simp) <;> with_reducible rfl
  try simp only [Act.put, List.getElem_toArray, List.getElem_cons_succ, List.getElem_cons_zero, List.setIfInBounds_toArray, List.set_cons_zero, List.set_cons_succ]
  refine wpAnyH_take (i := 4) (oi := _) (v := .slice (some ⟨q, 0, none⟩) 16 16) rfl (by kernel_rfl) (by kernel_rfl) (by kernel_rfl) (fun _ _ _ h => h) (Or.inl ⟨by rfl, ?hyv4⟩) (by assumption) ?restv4
  case hyv4 => intro V hSw; have hsl := HSL.out V; go_simp
  try simp only [Act.put, List.getElem_toArray, List.getElem_cons_succ, List.getElem_cons_zero, List.setIfInBounds_toArray, List.set_cons_zero, List.set_cons_succ]
  refine wpAnyH_ready (rs := [1]) (by kernel_rfl) (by simp) ?_
  refine (AllReadyH.cons (o := _) rfl (fun K9 hK => ?_) AllReadyH.nil)
  go_simp
  refine (number_any V1 e HX.out.1).mono ?_
  rintro e1 w2 ⟨p1, rfl, x1, g2⟩
  have H2 := Lib.hid (And.intro x1 g2)
  clear x1 g2
  (try go_wp2_with fail)
  refine hK.out _ _ trivial (fun hHeld => ?_)
  clear hK K9
  try simp only [Act.put, List.getElem_toArray, List.getElem_cons_succ, List.getElem_cons_zero, List.setIfInBounds_toArray, List.set_cons_zero, List.set_cons_succ]
  refine wpAnyH_ready (rs := [3]) (by kernel_rfl) (by simp) ?_
  refine (AllReadyH.cons (o := _) rfl (fun K9 hK => ?_) AllReadyH.nil)
  go_simp
  refine (number_any w2 r HX.out.2.1).mono ?_
  rintro e1 w3 ⟨p2, rfl, x2, g3⟩
  have H3 := Lib.hid (And.intro x2 g3)
  clear x2 g3
  (try go_wp2_with fail)
  refine hK.out _ _ trivial (fun hHeld => ?_)
  clear hK K9
  try simp only [Act.put, List.getElem_toArray, List.getElem_cons_succ, List.getElem_cons_zero, List.setIfInBounds_toArray, List.set_cons_zero, List.set_cons_succ]
  refine wpAnyH_ready (rs := [5]) (by kernel_rfl) (by simp) ?_
  refine (AllReadyH.cons (o := _) rfl (fun K9 hK => ?_) AllReadyH.nil)
  go_simp
  have g5 : w3.grownBy (w3.alloc (.cells #[.slice (some ⟨p1, 0, none⟩) 8 8, .slice (some ⟨p2, 0, none⟩) 8 8, .slice (some ⟨q, 0, none⟩) 16 16] 61)) none := World.grownBy_alloc _ _ none
  have b5 := Blk.new w3 61 #[.slice (some ⟨p1, 0, none⟩) 8 8, .slice (some ⟨p2, 0, none⟩) 8 8, .slice (some ⟨q, 0, none⟩) 16 16]
  obtain ⟨w5, hw5⟩ : ∃ w5, w3.alloc (.cells #[.slice (some ⟨p1, 0, none⟩) 8 8, .slice (some ⟨p2, 0, none⟩) 8 8, .slice (some ⟨q, 0, none⟩) 16 16] 61) = w5 := ⟨_, rfl⟩
  rw [hw5] at g5 b5 ⊢
  have g15 := grown_trans H2.out.2 (grown_trans H3.out.2 g5)
  have HO := Lib.hid (of_is w5 (HW.out.2.grown (grown_trans HB.out.2.1 g15) (by simp)) 7 (some ⟨w3.heap.size, 0, none⟩) 3 3 [b8 e, b8 r, d] rfl (parts3 b5 rfl rfl HX.out.2.2.1 (Nat.le_refl _) (Nat.le_refl _) (Nat.le_refl _) (H2.out.1.grown (grown_trans H3.out.2 g5)) (H3.out.1.grown g5) (row_bytesI w5 q d (by rw [← HX.out.2.2.2]; exact HB.out.2.2.2.2.grown g15 (by simp)))) (by omega) (fun p hp => by
    simp only [List.mem_cons, List.not_mem_nil, or_false] at hp
    rcases hp with rfl | rfl | rfl
    · rw [b8_length]; omega
    · rw [b8_length]; omega
    · rw [HX.out.2.2.1]; omega))
  have HG := Lib.hid (And.intro (HB.out.1.grown g15 (by simp)) (grown_trans HB.out.2.1 g15))
  clear g5 b5 g15 hw5
  refine hK.out _ _ trivial (fun hHeld => ?_)
  clear hK K9
  try simp only [Act.put, List.getElem_toArray, List.getElem_cons_succ, List.getElem_cons_zero, List.setIfInBounds_toArray, List.set_cons_zero, List.set_cons_succ]
  refine wpAnyH_ready (rs := [6]) (by kernel_rfl) (by simp) ?_
  refine (AllReadyH.cons (o := _) rfl (fun K9 hK => ?_) AllReadyH.nil)
  go_simp
  refine HO.out.mono ?_
  rintro e1 w6 ⟨rfl, g6⟩
  rw [show arrV .u8 (ofS 7 [b8 e, b8 r, d]) = F from HF.out.1]
  have HB3 := Lib.hid (And.intro (HG.out.1.grown g6 (by simp)) (grown_trans HG.out.2 g6))
  clear g6
  (try go_wp2_with fail)
  refine hK.out _ _ trivial (fun hHeld => ?_)
  clear hK K9
  try simp only [Act.put, List.getElem_toArray, List.getElem_cons_succ, List.getElem_cons_zero, List.setIfInBounds_toArray, List.set_cons_zero, List.set_cons_succ]
  refine wpAnyH_ready (rs := [7]) (by kernel_rfl) (by simp) ?_
  refine (AllReadyH.cons (o := _) rfl (fun K9 hK => ?_) AllReadyH.nil)
  refine ready_store_mid (by rfl) 24 _ _ rfl (q + 1) 0 F rfl rfl (there_blk HB3.out.1 (by rw [HF.out.2.1, HB.out.2.2.1]; exact Nat.le_refl _)) (by rw [HF.out.2.1]; exact info16) HF.out.2.2 ?_
  rw [setCells_row (P := Tryz.prog) (ty := 24) HB3.out.1 (by rw [HF.out.2.1]; exact info16) (by rw [HF.out.2.1, HB.out.2.2.1]) HF.out.2.2]
  refine hK.out _ _ trivial (fun hHeld => ?_)
  clear hK K9
  try simp only [Act.put, List.getElem_toArray, List.getElem_cons_succ, List.getElem_cons_zero, List.setIfInBounds_toArray, List.set_cons_zero, List.set_cons_succ]
  refine wpAnyH_done (by kernel_rfl) ?_ _
  go_wp2_with fail
  refine bodyPost_ret (results_cell rfl _ _ _ ⟨q + 1, 0, none⟩ (.agg F) rfl (run_loadVar_row _ (q + 1) 24 24 _ (0, 0) _ (HB3.out.1.row _) Tryz.underlying24 rfl (by rw [HF.out.2.1]; exact info16))) rfl ?_
  exact ⟨by rw [HF.out.1], grown_row HB3.out.2 (.inl (by rw [HB.out.2.2.2.1]; omega)) _⟩
end
end Go.Proofs.YtmoebkdbnldbdaaGreatDoor
/-
  proofs.votes: what a QC claims, as an iterator.
-/
namespace Go.Proofs.YtmoebkdbnldbdaaGreatDoor
open Go.RowKit Go.Shelf

attribute [local go_sem] Oper.semAt_some

def Sg.claim (D : Array Value) (s : Sg) : Array Value := clC s.who D s.lf (.slice s.A1 s.n1 s.c1) (.slice s.A2 s.n2 s.c2)
theorem info4s : (Tryz.prog.info? 136).map (·.size) = some 4 := by kernel_rfl
theorem info3s : (Tryz.prog.info? 134).map (·.size) = some 3 := by kernel_rfl
theorem zs_run (w : World) : Sem.run Tryz.prog (zeroValue 136) w = .ok (.agg sZ) w := zero_run w (by kernel_rfl)
/-- What a round keeps: the blocks that were there ahead, and every digest's block. -/
def KpV (n₀ : Nat) (A B : World) : Prop := Below n₀ A B ∧ ∀ (k : Nat) (cs : Array Value) (fr : Nat × Nat), A.heap[k]? = some (Obj.cells cs 24 fr) → B.heap[k]? = some (Obj.cells cs 24 fr)
theorem KpV.trans {n₀ : Nat} {A B C : World} (h : KpV n₀ A B) (k : KpV n₀ B C) : KpV n₀ A C := ⟨h.1.trans k.1, fun i cs fr hi => k.2 i cs fr (h.2 i cs fr hi)⟩
theorem KpV.grown {n₀ : Nat} {A B : World} (h : A.grownBy B none) (hn : n₀ ≤ A.heap.size) : KpV n₀ A B :=
  ⟨below_grown h hn (fun _ e => by cases e), fun k cs fr hk => (h.block k (Array.getElem?_eq_some_iff.1 hk).1 (fun e => by cases e)).trans hk⟩
theorem cl_build (w : World) (who lf : Int) (D : Array Value) (h : D.size = 16) (s1 s2 : Value) : Sem.run Tryz.prog (Instr.build 155 #[(0, .int .i64 who), (1, .agg D), (2, .agg (sigV lf s1 s2))]) w = .ok (.agg (clC who D lf s1 s2)) w := by
  obtain ⟨a0, a1, a2, a3, a4, a5, a6, a7, a8, a9, a10, a11, a12, a13, a14, a15, rfl⟩ := arr16p D h
  refine run_build w 155 _ _ ?_
  kernel_rfl

def intV : Value → Int | .int _ q => q | _ => 0
theorem votes_in (F : Fence) (m : Nat) (qv : Array Value) (w : World) (h : F = Fence.wide) : CallsIn F m Tryz.prog 57 #[.agg qv] w fun e w' => e = .returned (.func (.func 73) #[] #[.pointer (some ⟨w.heap.size, 0, none⟩)]) ∧
      w' = w.alloc (.cells qv 46) := by
  subst h
  refine callsIn_of_wp Tryz.func57 rfl trivial ?_ rfl
  simp only [Tryz.ntmps57, List.size_toArray, List.length_cons, List.length_nil, Nat.reduceAdd, Nat.reduceSub, Array.replicate_succ, Array.replicate_zero, List.push_toArray, List.append_toArray, List.nil_append, List.cons_append]
  gi_wp2
  go_ret
  exact ⟨rfl, rfl⟩

set_option maxRecDepth 100000 in
set_option maxHeartbeats 2000000 in
theorem votes1_in (m l q n₀ : Nat) (e r : Int) (he : -9223372036854775808 ≤ e ∧ e < 9223372036854775808) (hr : -9223372036854775808 ≤ r ∧ r < 9223372036854775808) (Bl : List Int) (hBl : isDig Bl) (Bv : Array Value) (hBv : Bv = arrV .u8 Bl) (A2 : Option Addr) (c2 : Nat) (L : List Sg) (hl : L.length < 9223372036854775808) (D : Array Value) (hD : D = arrV .u8 (forV e r Bl))
    (J Jx : List Sg → World → Prop) (hm : 2 ≤ m) (W : World) (hJ : AbidesFrom W.heap.size J)
    (hY : ∀ pre x V, J pre V → L[pre.length]? = some x → YieldAt Fence.wide (m - 1) Tryz.prog l #[.agg (x.claim D)] V fun e V' =>
      (e = .returned (.bool true) ∧ J (pre ++ [x]) V' ∧ KpV n₀ V V') ∨ (e = .returned (.bool false) ∧ Jx (pre ++ [x]) V'))
    (hq : Blk W q 46 (qcC e r Bv (.slice A2 L.length c2))) (hn : n₀ ≤ W.heap.size) (hR : Rounds W) (hA : SgsAt W A2 L) (hAn : ∀ a, A2 = some a → L ≠ [] → a.block < n₀) (h0 : J [] W) :
    CallsIn Fence.wide m Tryz.prog 73 #[.func (.yield l) #[] #[], .pointer (some ⟨q, 0, none⟩)] W fun e W' => (∃ v, e = .returned v) ∧
      ((∃ ys, ys = L ∧ J ys W') ∨ (∃ pre, True ∧ Jx pre W')) := by
  obtain ⟨Z16, hZ16⟩ : ∃ Z, Z = arrV .u8 (List.replicate 16 0) := ⟨_, rfl⟩
  have hz16 : ∀ w, Sem.run Tryz.prog (zeroValue 24) w = .ok (.agg Z16) w := fun w => by rw [hZ16]; exact z16run w
  have hz4 := zs_run
  have hB16 : Bv.size = 16 := by rw [hBv, arr_size, hBl.1]
  have hD16 : D.size = 16 := by rw [hD, arr_size]; exact (ofS_dig _ _).1
  have hD1 : (D.all fun v => v.oneCell') = true := by rw [hD]; exact arr_one _ _
  have hZ : Z16.size = 16 := by rw [hZ16]; rfl
  obtain ⟨x0, x1, x2, x3⟩ := qc_cells hB16 hq
  obtain ⟨n, hLn⟩ : ∃ n, L.length = n := ⟨_, rfl⟩
  rw [hLn] at x3
  have HF := Lib.hid (forV_is W hR e r he hr Bl hBl Bv hBv)
  have HX := Lib.hid (And.intro x2 (And.intro hB16 (And.intro hD (And.intro hD16 (And.intro hD1 hZ)))))
  have H0 := Lib.hid h0
  have HJ := Lib.hid hJ
  have HY := Lib.hid hY
  have HL := Lib.hid (And.intro hl (And.intro hA (And.intro hAn (And.intro hn hLn))))
  clear hZ16 hB16 hD16 hD1 hZ hD hBv hR he hr hBl x2 h0 hJ hY hl hA hAn hn hLn hq
  refine callsIn_of_wp Tryz.func73 rfl trivial ?_ rfl
  simp only [Tryz.ntmps73, List.size_toArray, List.length_cons, List.length_nil, Nat.reduceAdd, Nat.reduceSub, Array.replicate_succ, Array.replicate_zero, List.push_toArray, List.append_toArray, List.nil_append, List.cons_append]
  gi_wp2_with (first
    | (refine wpListIn_load_mid rfl 24 _ rfl q 2 rfl Bv.toList _ HX.out.1 Tryz.underlying24 rfl (by rw [Array.length_toList, HX.out.2.1]; exact info16g) ?_; rw [Array.toArray_toList]))
  refine ⟨trivial, fun _ => by omega, ?_⟩
  refine (callsIn_wide.2 HF.out).mono ?_
  rintro e1 w2 ⟨rfl, g2⟩
  rw [← HX.out.2.2.1]
  have G2 := Lib.hid g2
  have xv := g2.cell x3 (by simp)
  clear g2 x0 x1 x3
  obtain ⟨w3, hw3⟩ : ∃ w3, w3 = (w2.alloc (.cells Z16 24)).setRow w2.heap.size D := ⟨_, rfl⟩
  obtain ⟨db, hdb⟩ : ∃ db, db = w2.heap.size := ⟨_, rfl⟩
  have H3 := Lib.hid (show Blk w3 db 24 D ∧ W.grownBy w3 none ∧ W.heap.size ≤ db from by
    rw [hw3, hdb]
    have g3 := grown_row (World.grownBy_alloc w2 (.cells Z16 24) none) (.inl (Nat.le_refl _)) D
    exact ⟨(Blk.new w2 24 Z16).row D, grown_trans G2.out g3, G2.out.size⟩)
  have xv3 : w3.cell? ⟨q, 18, none⟩ = some (.slice A2 n c2) := by
    have g3 : w2.grownBy w3 none := by rw [hw3]; exact grown_row (World.grownBy_alloc w2 (.cells Z16 24) none) (.inl (Nat.le_refl _)) D
    exact g3.cell xv (by simp)
  have HW3 := Lib.hid (And.intro hw3 hdb)
  clear xv hw3 hdb
  gi_wp2_with (first
    | (refine wpListIn_store_row rfl 24 _ _ rfl w2.heap.size D rfl rfl 24 _ (heap_alloc_new w2 _) (by rw [HX.out.2.2.2.1]; exact info16g) (by rw [HX.out.2.2.2.1, HX.out.2.2.2.2.2]) HX.out.2.2.2.2.1 ?_
       rw [← HW3.out.1, ← HW3.out.2]))
  gi_loopw [16] (fun i wr => ∃ k : Nat, k ≤ n ∧ i = .int .i64 (k : Int) ∧ J (L.take k) wr ∧ Below n₀ W wr ∧ Blk wr db 24 D ∧ W.heap.size ≤ wr.heap.size) (fun i _ => n - (intV i).toNat)
  case atStart => exact ⟨0, Nat.zero_le _, rfl, by simpa using HJ.out _ _ _ none H0.out H3.out.2.1 (fun _ e => by cases e), below_grown H3.out.2.1 HL.out.2.2.2.1 (fun _ e => by cases e), H3.out.1, H3.out.2.1.size⟩
  case round =>
    obtain ⟨k, hkl, hi, hJk, hK, hDb, hsz⟩ := hrel
    obtain ⟨I, hI⟩ : ∃ I : Int, I = (k : Int) := ⟨_, rfl⟩
    rw [← hI] at hi
    subst hi
    clear xv3
    obtain ⟨hl, hA, hAn, hn, hLn⟩ := HL.out
    by_cases hlt : k < n
    · have hlt' : k < L.length := by omega
      have hne : L ≠ [] := by rintro rfl; simp at hlt'
      obtain ⟨b, off, rfl, hc⟩ := hA hne
      have hbn : b < n₀ := hAn _ rfl hne
      have d1 : decide (I < (n : Int)) = true := by simp; omega
      have hIV : I < (n : Int) := by omega
      have hI0 : 0 ≤ I ∧ I < 9223372036854775807 := by omega
      have hkI : I.toNat = k := by omega
      have r1 := range_below (hc k hlt') hK hbn
      obtain ⟨x, hxe⟩ : ∃ x, x = L[k] := ⟨_, rfl⟩
      rw [← hxe] at r1
      rw [← hkI] at r1
      have htake : L.take (k + 1) = L.take k ++ [x] := by rw [← List.take_append_getElem hlt', hxe]
      obtain ⟨cs, hcs⟩ : ∃ cs, cs = x.cells := ⟨_, rfl⟩
      have hc4 : cs.size = 4 := by rw [hcs]; rfl
      have hc1 : (cs.all fun v => v.oneCell') = true := by rw [hcs]; exact sg_one x
      rw [← hcs] at r1
      obtain ⟨W0, hW0⟩ : ∃ W0, W0 = (wr.alloc (.cells sZ 136)).setRow wr.heap.size cs := ⟨_, rfl⟩
      have hG0 : wr.grownBy W0 none := by rw [hW0]; exact grown_row (World.grownBy_alloc wr _ none) (.inl (Nat.le_refl _)) cs
      have bS : Blk W0 wr.heap.size 136 cs := by rw [hW0]; exact (Blk.new wr 136 sZ).row cs
      have rS := range_blkK21 bS
      have c0 : W0.cell? ⟨wr.heap.size, 0, none⟩ = some (.int .i64 x.who) := by have := rS 0 (.int .i64 x.who) (by rw [hcs]; rfl); simpa using this
      have rg : W0.rangeAt wr.heap.size 1 x.sig.toList := by
        rw [show cs.toList = [.int .i64 x.who] ++ (x.sig.toList ++ []) by rw [hcs]; simp [Sg.cells]] at rS
        have := range_part rS
        rwa [Nat.zero_add] at this
      have bD := hDb.grown hG0 (by simp)
      have hJ0 := HJ.out _ _ _ none hJk hG0 (fun _ e => by cases e)
      have hlen : L[(L.take k).length]? = some x := by rw [List.length_take, Nat.min_eq_left (by omega), hxe]; exact List.getElem?_eq_getElem hlt'
      obtain ⟨fn, tmps, assign, body, hy, hRd⟩ := HY.out _ x W0 hJ0 hlen
      have HC := Lib.hid (And.intro hc4 (And.intro hc1 (And.intro r1 (And.intro rg bD))))
      have HN := Lib.hid (And.intro hK (And.intro hG0 (And.intro hI (And.intro hsz (And.intro hlt (And.intro htake (And.intro hDb hn)))))))
      have HW := Lib.hid hW0
      obtain ⟨who, hwho⟩ : ∃ who, who = x.who := ⟨_, rfl⟩
      have hcl : x.claim D = clC who D x.lf (.slice x.A1 x.n1 x.c1) (.slice x.A2 x.n2 x.c2) := by rw [hwho]; rfl
      have hsg : x.sig = sigV x.lf (.slice x.A1 x.n1 x.c1) (.slice x.A2 x.n2 x.c2) := rfl
      rw [← hwho] at c0
      have HB := Lib.hid (fun V => cl_build V who x.lf D HX.out.2.2.2.1 (.slice x.A1 x.n1 x.c1) (.slice x.A2 x.n2 x.c2))
      rw [← hcl, ← hsg] at HB
      obtain ⟨cl, hce⟩ : ∃ cl, cl = x.claim D := ⟨_, rfl⟩
      obtain ⟨sg, hse⟩ : ∃ sg, sg = x.sig := ⟨_, rfl⟩
      rw [← hce, ← hse] at HB
      rw [← hce] at hy
      have HSE := Lib.hid hse
      clear r1 rg bD hxe htake hcs hc4 hc1 hG0 bS rS hJ0 hlen hJk hc hne hbn hI hkI hkl hlt hlt' hK hsz hW0 hl hA hAn hn hLn hDb hwho hcl hsg hce hse
      gi_upto_region 5 with (first
        | (refine wpListIn_load_mid rfl 136 _ rfl b (off + I.toNat * 4) rfl cs.toList _ HC.out.2.2.1 Tryz.underlying136 rfl (by rw [Array.length_toList, HC.out.1]; exact info4s) ?_; rw [Array.toArray_toList])
        | (refine wpListIn_store_row rfl 136 _ _ rfl wr.heap.size cs rfl rfl 136 _ (heap_alloc_new wr _) (by rw [HC.out.1]; exact info4s) (by rw [HC.out.1]; rfl) HC.out.2.1 ?_
           rw [← HW.out])
        | (refine wpListIn_load_row rfl 24 _ rfl db rfl 24 D (0, 0) _ HC.out.2.2.2.2 Tryz.underlying24 rfl (by rw [HX.out.2.2.2.1]; exact info16g) ?_)
        | (refine wpListIn_load_mid rfl 134 _ rfl wr.heap.size 1 rfl x.sig.toList _ HC.out.2.2.2.1 Tryz.underlying134 rfl (by exact info3s) ?_; rw [Array.toArray_toList, ← HSE.out])
        | (refine wpListIn_build_run rfl _ _ rfl (.agg cl) (by simp [Act.eval]; exact HB.out W0) ?_))
      refine ⟨fun _ => by omega, ?_⟩
      refine hRd.mono ?_
      rintro e3 W3 (⟨rfl, hJ3, hk3⟩ | ⟨rfl, hJx3⟩)
      · have H3' := Lib.hid (And.intro hJ3 hk3)
        clear hJ3 hk3
        gi_wp2
        go_roundw
        case rel =>
          obtain ⟨n1, n2, n3, n4, n5, n6, n7, n8⟩ := HN.out
          refine ⟨k + 1, by omega, by rw [n3]; rfl, by rw [n6]; exact H3'.out.1, Below.trans' (below_grown n2 (by omega) (fun _ e => by cases e)) n1 H3'.out.2.1, H3'.out.2.2 _ _ _ (n7.grown n2 (by simp)), Nat.le_trans n4 (Nat.le_trans n2.size H3'.out.2.1.size)⟩
        case measure => obtain ⟨n1, n2, n3, n4, n5, n6, n7, n8⟩ := HN.out; simp [intV]; omega
      · have H3' := Lib.hid hJx3
        clear hJx3
        gi_wp2
        refine bodyPost_ret (results_none rfl _ _ _) rfl ?_
        exact ⟨⟨_, rfl⟩, .inr ⟨_, trivial, H3'.out⟩⟩
    · have d1 : decide (I < (n : Int)) = false := by simp; omega
      obtain rfl : k = n := by omega
      rw [← hLn, List.take_length] at hJk
      have HJk := Lib.hid hJk
      clear hlt hI hkl hJk hK hsz hl hA hAn hn hLn hDb
      gi_wp2
      go_end0
      exact ⟨⟨_, rfl⟩, .inl ⟨_, rfl, HJk.out⟩⟩
theorem votes_seq (m q n₀ : Nat) (e r : Int) (he : -9223372036854775808 ≤ e ∧ e < 9223372036854775808) (hr : -9223372036854775808 ≤ r ∧ r < 9223372036854775808) (Bl : List Int) (hBl : isDig Bl) (Bv : Array Value) (hBv : Bv = arrV .u8 Bl) (A2 : Option Addr) (c2 : Nat) (L : List Sg) (hl : L.length < 9223372036854775808) (D : Array Value) (hD : D = arrV .u8 (forV e r Bl))
    (hm : 2 ≤ m) (w : World) (hq : Blk w q 46 (qcC e r Bv (.slice A2 L.length c2))) (hn : n₀ ≤ w.heap.size) (hR : Rounds w) (hA : SgsAt w A2 L) (hAn : ∀ a, A2 = some a → L ≠ [] → a.block < n₀) :
    SeqTold Fence.wide m Tryz.prog 73 #[.pointer (some ⟨q, 0, none⟩)] (fun x : Sg => #[.agg (x.claim D)]) (fun _ => KpV n₀) (fun pre _ x _ => L[pre.length]? = some x) (fun ys => ys = L) (fun _ => True) w := fun l J Jx W hW hJ _ hY h0 => by
  have g := grown_below0 hW
  exact votes1_in m l q n₀ e r he hr Bl hBl Bv hBv A2 c2 L hl D hD J Jx hm W hJ hY (hq.grown g (by simp)) (Nat.le_trans hn g.size) (hR.grown g (by simp)) (hA.grown g) hAn h0
end Go.Proofs.YtmoebkdbnldbdaaGreatDoor
/-
  Ground.quorum: claims of a quorum.
-/
namespace Go.Proofs.YtmoebkdbnldbdaaGreatDoor
open Go.RowKit Go.Shelf

attribute [local go_sem] Oper.semAt_some

theorem ownFrom_ex {α β : Type} {B : Nat} {I : α → β → World → Prop} (h : ∀ a, OwnFrom B (I a)) : OwnFrom B (fun s W => ∃ a, I a s W) := fun s W W' row hs hg hr => by
  obtain ⟨a, ha⟩ := hs
  exact ⟨a, h a s W W' row ha hg hr⟩
/-- A claim, of whatever kind. -/
def stepOk {α : Type} (V : List Vd) (dg : α → List Int) (sg : α → Sg) (L : List α) (k : Nat) : Prop := ∀ x, L[k]? = some x → holdsB V (sg x).who (dg x) (sg x).lf (sg x).n1 (sg x).n2 (sg x).cs (sg x).ps = true ∧ ∀ y, 0 < k → L[k - 1]? = some y → (sg y).who < (sg x).who
def goodTo {α : Type} (V : List Vd) (dg : α → List Int) (sg : α → Sg) (L : List α) (n : Nat) : Prop := ∀ k, k < n → stepOk V dg sg L k
def whoL {α : Type} (sg : α → Sg) (L : List α) : List Int := L.map fun x => (sg x).who
open Classical in
noncomputable def quorumB {α : Type} (V : List Vd) (dg : α → List Int) (sg : α → Sg) (L : List α) : Bool := decide (goodTo V dg sg L L.length) && enoughS V (whoL sg L)
section
variable {B : Nat} {E : Nat → Addr} {e : Int} {A : Option Addr} {c : Nat} {V : List Vd} {G : Array Value}
def clV {α : Type} (dg : α → List Int) (sg : α → Sg) (x : α) : Array Value := (sg x).claim (arrV .u8 (dg x))
theorem clV_size {α : Type} {dg : α → List Int} {sg : α → Sg} (hd : ∀ x, isDig (dg x)) (x : α) : (clV dg sg x).size = 20 := clC_size (by rw [arr_size, (hd x).1])
theorem clV_one {α : Type} {dg : α → List Int} {sg : α → Sg} (x : α) : ((clV dg sg x).all fun v => v.oneCell') = true := by
  have h := arr_one .u8 (dg x)
  rw [Array.all_eq_true_iff_forall_mem] at h ⊢
  intro y hy
  simp only [clV, Sg.claim, clC, sigV, Array.mem_append] at hy
  rcases hy with hy | hy | hy
  · simp at hy; subst hy; rfl
  · exact h y hy
  · simp at hy; rcases hy with rfl | rfl | rfl <;> rfl
def clZ : Array Value := clC 0 z16v 0 (.slice none 0 0) (.slice none 0 0)
theorem clz_run (w : World) : Sem.run Tryz.prog (zeroValue 155) w = .ok (.agg clZ) w := zero_run w (by kernel_rfl)
/-- What the range holds of memory. -/
def QI {α : Type} (W0 : World) (q : Nat) (gv : Array Value) (V : List Vd) (dg : α → List Int) (sg : α → Sg) (L : List α) (v : Value) (pre : List α) (W : World) : Prop :=
  Blk W q 26 gv ∧ (Blk W (q + 1) 31 #[.nilIface] ∧ (Blk W (q + 1 + 1) 153 #[v] ∧ (W.ownsRow (q + 3) 3 1 v pre.length ((whoL sg pre).map (Value.int .i64)) ∧ ((pre = L.take pre.length ∧ goodTo V dg sg L pre.length) ∧ W0.grownBy W (some (q + 1 + 1))))))
theorem ownFrom_ownn {β : Type} {B base size : Nat} {e : TypeId} {v : Value} (n : β → Nat) (f : β → List Value) : OwnFrom B (fun s W => W.ownsRow base e size v (n s) (f s)) := fun s W W' row hs hg hr =>
  ownFrom_own (fun _ : Unit => f s) () W W' row hs hg hr
theorem qi_own {α : Type} {W0 : World} {q : Nat} {gv : Array Value} {V : List Vd} {dg : α → List Int} {sg : α → Sg} {L : List α} : OwnFrom W0.heap.size (fun pre W => ∃ v, QI W0 q gv V dg sg L v pre W) :=
  ownFrom_ex fun v => OwnFrom.and (ownFrom_blk (fun _ => gv)) (OwnFrom.and (ownFrom_blk (fun _ => #[.nilIface])) (OwnFrom.and (ownFrom_blk (fun _ => #[v])) (OwnFrom.and (ownFrom_ownn (fun pre : List α => pre.length) (fun pre => (whoL sg pre).map (Value.int .i64))) (OwnFrom.and (ownFrom_pure (fun pre : List α => pre = L.take pre.length ∧ goodTo V dg sg L pre.length)) (ownFrom_grownr (Nat.le_refl _))))))
/-- What a failing round leaves. -/
def QX {α : Type} (w : World) (q : Nat) (E : Nat → Addr) (V : List Vd) (dg : α → List Int) (sg : α → Sg) (L : List α) (cd : Code) (_ : List α) (W : World) : Prop :=
  (cd = .ret ∧ ¬ goodTo V dg sg L L.length) ∧ (Blk W (q + 1) 31 #[errV (E 11)] ∧ w.grownBy W none)
theorem qx_own {α : Type} {w : World} {B q : Nat} {E : Nat → Addr} {V : List Vd} {dg : α → List Int} {sg : α → Sg} {L : List α} (cd : Code) (h : w.heap.size ≤ B) : OwnFrom B (QX w q E V dg sg L cd) :=
  OwnFrom.and (ownFrom_pure (fun _ : List α => cd = .ret ∧ ¬ goodTo V dg sg L L.length)) (OwnFrom.and (ownFrom_blk (fun _ => #[errV (E 11)])) (ownFrom_grownr h))
theorem own_row1 {w : World} {base size n : Nat} {e : TypeId} {v : Value} {xs : List Value} (h : w.ownsRow base e size v (n + 1) xs) : ∃ g cap, v = .slice (some ⟨g, 0, none⟩) (n + 1) cap := by
  rcases h.2 with ⟨h1, h2⟩ | ⟨g, cap, cur, rfl, _⟩
  · simp at h2
  · exact ⟨g, cap, rfl⟩
theorem KpV.to {n₀ : Nat} {A B : World} {row : Option Nat} (h : A.grownBy B row) (hn : n₀ ≤ A.heap.size) (hr : ∀ g, row = some g → n₀ ≤ g ∧ ∀ cs fr, A.heap[g]? ≠ some (Obj.cells cs 24 fr)) : KpV n₀ A B :=
  ⟨below_grown h hn (fun g e => (hr g e).1), fun k cs fr hk => (h.block k (Array.getElem?_eq_some_iff.1 hk).1 (fun e => (hr k e.symm).2 cs fr hk)).trans hk⟩
theorem own_type {w : World} {base size n : Nat} {e d : TypeId} {v : Value} {xs : List Value} (h : w.ownsRow base e size v n xs) {b : Nat} (hb : v.ownBlock = some b) (hne : e ≠ d) : ∀ cs fr, w.heap[b]? ≠ some (Obj.cells cs d fr) := fun cs fr hc => by
  rcases h.2 with ⟨rfl, _⟩ | ⟨g, cap, cur, rfl, _, hgb, _⟩
  · simp [Value.ownBlock] at hb
  · obtain rfl : g = b := by simpa [Value.ownBlock] using hb
    rw [hgb] at hc
    cases hc
    exact hne rfl
theorem pre_snoc {α : Type} {L pre : List α} {x : α} (h : pre = L.take pre.length) (hx : L[pre.length]? = some x) : pre ++ [x] = L.take (pre.length + 1) := by
  obtain ⟨hk, he⟩ := List.getElem?_eq_some_iff.1 hx
  rw [← List.take_append_getElem hk, he, ← h]
theorem load_err {w : World} {r : Nat} {x : Value} (h : w.cell? ⟨r, 0, none⟩ = some x) : (loadVar 31 ⟨r, 0, none⟩).run Tryz.prog w = .ok x w := by
  have hd := Tryz.underlying31
  simp [loadVar, isAgg, go_sem, hd, h]
theorem good_who {α : Type} {V : List Vd} {dg : α → List Int} {sg : α → Sg} {L : List α} : ∀ (n : Nat), goodTo V dg sg L n → ∀ x, 0 < n → L[n - 1]? = some x → (n : Int) - 1 ≤ (sg x).who
  | 0, _, _, h0, _ => absurd h0 (by omega)
  | 1, h, x, _, hx => by
    have h1 := (h 0 (by omega) x hx).1
    unfold holdsB at h1
    simp only [Bool.and_eq_true, decide_eq_true_eq] at h1
    have := h1.1.1
    omega
  | n + 2, h, x, _, hx => by
    have hx' : L[n + 1]? = some x := hx
    have hlt : n < L.length := by have := (List.getElem?_eq_some_iff.1 hx').1; omega
    have ih := good_who (n + 1) (fun k hk => h k (by omega)) L[n] (by omega) (by simp)
    have h2 := (h (n + 1) (by omega) x hx').2 L[n] (by omega) (by simp)
    omega
theorem good_few {α : Type} {V : List Vd} {dg : α → List Int} {sg : α → Sg} {L : List α} {n : Nat} (h : goodTo V dg sg L n) (hn : n ≤ L.length) : n ≤ V.length := by
  rcases n with _ | n
  · exact Nat.zero_le _
  · have hx : L[n + 1 - 1]? = some L[n] := by simp
    have h1 := good_who (n + 1) h L[n] (by omega) hx
    have h2 := (h n (by omega) L[n] (by simp)).1
    unfold holdsB at h2
    simp only [Bool.and_eq_true, decide_eq_true_eq] at h2
    have := h2.1.2
    omega
theorem good_cap {α : Type} {V : List Vd} {dg : α → List Int} {sg : α → Sg} {L : List α} {n : Nat} (hL : L.length ≤ 100 ∨ V.length ≤ 100) (h : goodTo V dg sg L n) (hn : n ≤ L.length) : n ≤ 100 := by
  rcases hL with hL | hL
  · omega
  · have := good_few h hn; omega
theorem good_snoc {α : Type} {V : List Vd} {dg : α → List Int} {sg : α → Sg} {L : List α} {k : Nat} (h : goodTo V dg sg L k) (hk : stepOk V dg sg L k) : goodTo V dg sg L (k + 1) := fun j hj => by
  by_cases e : j = k
  · subst e; exact hk
  · exact h j (by omega)
set_option maxRecDepth 100000 in
set_option maxHeartbeats 1000000 in
theorem pquorum_is {α : Type} (dg : α → List Int) (sg : α → Sg) (hdg : ∀ x, isDig (dg x)) (w : World) (hR : Rounds w) (he : ErrEnv w B E) (hB4 : 4 ≤ w.heap.size) (hBw : B ≤ w.heap.size) (hV : VdsAt w A V) (ok : keysOk V) (hl : V.length < 1000) (hG : G.size = 16) (gv : Array Value) (hgv : gv = grC e (.slice A V.length c) G)
    (gf : Nat) (lb : Array Value) (heg : ∀ args w, (callFunc gf args).run Tryz.prog w = .ok (.enter gf args) w) (L : List α) (hL : L.length ≤ 100 ∨ V.length ≤ 100) (hok : SgsOk w (L.map sg))
    (hseq : ∀ z, w.grownBy z none → SeqTold Fence.wide 5 Tryz.prog gf lb (fun x => #[.agg (clV dg sg x)]) (fun _ => KpV w.heap.size) (fun pre _ x _ => L[pre.length]? = some x) (fun ys => ys = L) (fun _ => True) z) :
    Calls Tryz.prog 56 #[.agg gv, .func (.func gf) #[] lb] w fun e' w' => e' = .returned (evOf E (holdN (quorumB V dg sg L))) ∧ w.grownBy w' none := by
  obtain ⟨i0, hi, hz0, hz1, hz2⟩ := info_parts int_infoK21
  have HI0 := Lib.hid (And.intro hi (And.intro hz0 (And.intro hz1 hz2)))
  obtain ⟨q, hq⟩ : ∃ q, w.heap.size = q := ⟨_, rfl⟩
  obtain ⟨W0, hW0⟩ : ∃ W0, ((w.alloc (.cells gv 26)).alloc (.cells #[.nilIface] 31)).alloc (.cells #[.slice none 0 0] 153) = W0 := ⟨_, rfl⟩
  have g0 : w.grownBy W0 none := by rw [← hW0]; exact grown_trans (grown_trans (World.grownBy_alloc _ _ none) (World.grownBy_alloc _ _ none)) (World.grownBy_alloc _ _ none)
  have hgs : gv.size = 18 := by rw [hgv]; exact grC_size hG
  have hsz : W0.heap.size = q + 3 := by rw [← hW0, ← hq]; simp
  have b0 : Blk W0 q 26 gv := by rw [← hW0, ← hq]; exact ((Blk.new _ _ _).alloc _).alloc _
  have b1 : Blk W0 (q + 1) 31 #[.nilIface] := by
    have h := (Blk.new (w.alloc (.cells gv 26)) 31 #[.nilIface]).alloc (.cells #[.slice none 0 0] 153)
    rw [World.size_alloc, hq, hW0] at h
    exact h
  have b2 : Blk W0 (q + 1 + 1) 153 #[.slice none 0 0] := by
    have h := Blk.new ((w.alloc (.cells gv 26)).alloc (.cells #[.nilIface] 31)) 153 #[.slice none 0 0]
    rw [World.size_alloc, World.size_alloc, hq, hW0] at h
    exact h
  have HS := Lib.hid (hseq W0 g0)
  have HX := Lib.hid (And.intro g0 (And.intro hsz (And.intro hgs (And.intro hq (And.intro hL hok)))))
  have HE := Lib.hid (And.intro hR (And.intro he (And.intro hB4 (And.intro hBw (And.intro hV (And.intro ok (And.intro hl (And.intro hG (And.intro hgv hdg)))))))))
  have HW := Lib.hid (And.intro hW0 (And.intro b0 (And.intro b1 b2)))
  have hcz := clz_run
  clear hR he hB4 hBw hV ok hl hG hgv hL hok hseq g0 hsz hgs b0 b1 b2 hdg hi hz0 hz1 hz2
  refine (callsIn_wide (n := 6)).1 ?_
  refine callsIn_of_wp_marks Tryz.func56 rfl trivial ?_ rfl
  simp only [Tryz.ntmps56, List.size_toArray, List.length_cons, List.length_nil, Nat.reduceAdd, Nat.reduceSub, Array.replicate_succ, Array.replicate_zero, List.push_toArray, List.append_toArray, List.nil_append, List.cons_append]
  gi_wp2
  have hsz := HX.out.2.1
  have hle : w.heap.size ≤ W0.heap.size := HX.out.1.size
  refine wpIn_rangeFunc_told rfl (by omega) (gf := gf) (lb := lb) rfl trivial heg HS.out (fun h1 h2 => KpV.trans h1 h2)
    (fun x W l o o' hl ho hc hw => ⟨below_grown (grownBy_putObj' W l o') (by have := (Array.getElem?_eq_some_iff.1 ho).1; omega) (fun g e => by have := Option.some.inj e; omega), fun j cs fr hj => ((grownBy_putObj' W l o').block j (Array.getElem?_eq_some_iff.1 hj).1 (fun e => by
      have := Option.some.inj e
      subst this
      rw [ho] at hj
      cases hj
      cases hc)).trans hj⟩) (fun _ _ _ _ _ _ h => h) (Below.refl _ _) (fun _ => rfl)
    (fun pre W => ∃ v, QI W0 q gv V dg sg L v pre W)
    (QX w q E V dg sg L)
    qi_own (fun cd => qx_own cd hle)
    ⟨_, HW.out.2.1, HW.out.2.2.1, HW.out.2.2.2, World.ownsRow_nil _ _ _ _, ⟨by simp, fun j hj => by simp at hj⟩, World.grownBy.refl _ _⟩
    (fun pre x a' W => ∃ g, W0.heap.size ≤ g ∧ (a' = { tmps := #[.agg gv, .func (.func gf) #[] lb, .pointer (some ⟨q, 0, none⟩), undef, .pointer (some ⟨q + 1, 0, none⟩), .pointer (some ⟨q + 1 + 1, 0, none⟩), .pointer (some ⟨g, 0, none⟩), undef, .func (.func gf) #[] lb, .agg (clV dg sg x), undef, undef, undef, undef, undef, undef, undef, undef, undef, undef, undef, undef, undef, undef, undef, undef, undef, undef, undef, undef, undef, undef, undef, undef, undef, undef, undef, undef, undef, undef, undef, undef], defers := [] } ∧ L[pre.length]? = some x) ∧ Blk W g 155 (clV dg sg x))
    (fun pre x a' => ownFrom_axK20 _ _ _) ?assign ?body ?done ?stop
  case assign =>
    rintro l pre x W K hI hx hK
    have hc20 : (clV dg sg x).size = 20 := clV_size HE.out.2.2.2.2.2.2.2.2.2 x
    have hg1 : W.grownBy ((W.alloc (.cells clZ 155)).setRow W.heap.size (clV dg sg x)) none := grown_row (World.grownBy_alloc W _ none) (.inl (Nat.le_refl _)) _
    obtain ⟨v, hB0, hB1, hB2, hown, hpg, hG0⟩ := hI
    have hWs : W0.heap.size ≤ W.heap.size := hG0.size
    obtain ⟨cv, hcv⟩ : ∃ cv, cv = clV dg sg x := ⟨_, rfl⟩
    rw [← hcv] at hK hc20 hg1 ⊢
    have hc1 : (cv.all fun y => y.oneCell') = true := by rw [hcv]; exact clV_one x
    have HK := Lib.hid (show K _ ((W.alloc (.cells clZ 155)).setRow W.heap.size cv) from hK _ _ ((keeps_grown hg1).from _) (KpV.grown hg1 (by omega))
      ⟨v, hB0.grown hg1 (by simp), hB1.grown hg1 (by simp), hB2.grown hg1 (by simp), own_keep hown hg1, hpg, grown_trans hG0 (grown_weak hg1 _)⟩ ⟨W.heap.size, hWs, ⟨rfl, hx⟩, (Blk.new W 155 clZ).row cv⟩)
    have HC := Lib.hid (And.intro hc20 hc1)
    clear hB0 hB1 hB2 hown hpg hG0 hg1 hK hc20 hc1 hcv hx
    gi_wp2_with (refine wpListIn_store_row rfl 155 _ _ rfl W.heap.size cv rfl rfl 155 _ (heap_alloc_new W _) (by rw [HC.out.1]; exact info20c) (by rw [HC.out.1]; rfl) HC.out.2 ?_)
    exact HK.out
  case body =>
    rintro l pre x a' W hl0 hl1 ⟨v, hB0, hB1, hB2, hown, ⟨hpre, hgood⟩, hG0⟩ ⟨g, hg, ⟨rfl, hx⟩, hBc⟩
    obtain ⟨hR, he, hB4, hBw, hV, ok, hl, hG, hgv, hdg⟩ := HE.out
    have hGw : w.grownBy W none := grown_fresh HX.out.1 hG0 (by have := HX.out.2.2.2.1; omega)
    have hxm : x ∈ L := List.mem_of_getElem? hx
    have hxk : pre.length < L.length := (List.getElem?_eq_some_iff.1 hx).1
    have hok := HX.out.2.2.2.2.2 (sg x) (List.mem_map_of_mem hxm)
    obtain ⟨r, hr⟩ : ∃ r, r = holdsB V (sg x).who (dg x) (sg x).lf (sg x).n1 (sg x).n2 (sg x).cs (sg x).ps := ⟨_, rfl⟩
    obtain ⟨cv, hcv⟩ : ∃ cv, cv = clV dg sg x := ⟨_, rfl⟩
    have HH := Lib.hid (fun V' (hV' : W.grownBy V' none) => holds_is V' (hR.grown (grown_trans hGw hV') (by simp)) (he.grown (grown_trans hGw hV') (fun _ e => by cases e)) (Nat.le_trans hB4 (grown_trans hGw hV').size) (hV.grown (grown_trans hGw hV')) ok hG gv hgv (sg x).who (sg x).lf (dg x) (hdg x) (arrV .u8 (dg x)) rfl _ _ _ _ _ _ _ _ (hok.1.grown (grown_trans hGw hV')) (hok.2.grown (grown_trans hGw hV')) cv hcv)
    rw [← hr] at HH
    have hc20 : cv.size = 20 := by rw [hcv]; exact clV_size hdg x
    have c0 : W.cell? ⟨g, 0, none⟩ = some (.int .i64 (sg x).who) := (cl_cells (by rw [arr_size, (hdg x).1]) hBc).1
    have hve : ∀ V', W.grownBy V' none → V'.cell? ⟨11, 0, none⟩ = some (errV (E 11)) := fun V' h => ((he.grown (grown_trans hGw h) (fun _ e => by cases e)).var 11 (by omega)).1
    obtain ⟨who, hwho⟩ : ∃ who, who = (sg x).who := ⟨_, rfl⟩
    rw [← hwho] at c0
    rw [← hcv] at hBc ⊢
    have HVE := Lib.hid hve
    have HC := Lib.hid (And.intro hc20 hcv)
    have HB := Lib.hid (And.intro hB0 (And.intro hB1 (And.intro hB2 (And.intro hown (And.intro hG0 (And.intro hBc hGw))))))
    have HN := Lib.hid (And.intro hxk (And.intro hx (And.intro hr (And.intro hwho (And.intro hpre (And.intro hgood hg))))))
    clear hR he hB4 hBw hV ok hl hG hgv hdg hB1 hG0 hGw hxm hxk hok hr hcv hc20 hve hwho hBc hB0 hpre hl0 hl1
    have cb := hB2.cell 0
    simp only [List.getElem?_toArray, List.getElem?_cons_zero] at cb
    obtain ⟨k, hk⟩ : ∃ k, pre.length = k := ⟨_, rfl⟩
    rw [hk] at hown hgood
    rcases k with _ | j
    · obtain ⟨A2, cap, rfl⟩ := own_slice _ hown
      have hstep : True := trivial
      have HJ := Lib.hid (show stepOk V dg sg L pre.length ↔ r = true from ⟨fun h => by rw [HN.out.2.2.1]; exact (h x HN.out.2.1).1, fun h y hy => by
        rw [HN.out.2.1] at hy
        cases hy
        exact ⟨by rw [← HN.out.2.2.1]; exact h, fun z hz => by rw [hk] at hz; omega⟩⟩)
      clear hown hgood hx hk hstep
      gi_wp2
      refine wpIn_region_held_round (S := fun V => V.cell? ⟨q + 1 + 1, 0, none⟩ = some (.slice A2 0 cap)) (by kernel_rfl) (by kernel_rfl) (by rintro ⟨_, _, h⟩; exact h) ((grown_drew (World.grownBy.refl W none)).cell cb (by simp)) (fun _ => ?_)
      refine wpAnyH_take (i := 0) (oi := _) (v := ?v0a) rfl (by kernel_rfl) (by kernel_rfl) (by kernel_rfl) (fun _ _ _ h => h) (Or.inl ⟨by rfl, ?hy0a⟩) (by assumption) ?rest0a
      case hy0a => (intro V hSw; (try dsimp only at hSw); go_simp) <;> with_reducible rfl
      simp only [Act.put, List.getElem_toArray, List.getElem_cons_zero, List.setIfInBounds_toArray, List.set_cons_zero, List.set_cons_succ]
      refine wpAnyH_take (i := 1) (oi := _) (v := ?v1a) rfl (by kernel_rfl) (by kernel_rfl) (by kernel_rfl) (fun _ _ _ h => h) (Or.inl ⟨by rfl, ?hy1a⟩) (by assumption) ?rest1a
      case hy1a => (intro V hSw; (try dsimp only at hSw); go_simp) <;> with_reducible rfl
      simp only [Act.put, List.getElem_toArray, List.getElem_cons_succ, List.getElem_cons_zero, List.setIfInBounds_toArray, List.set_cons_zero, List.set_cons_succ]
      refine wpAnyH_take (i := 2) (oi := _) (v := ?v2a) rfl (by kernel_rfl) (by kernel_rfl) (by kernel_rfl) (fun _ _ _ h => h) (Or.inl ⟨by rfl, ?hy2a⟩) (by assumption) ?rest2a
      case hy2a => (intro V hSw; (try dsimp only at hSw); go_simp) <;> with_reducible rfl
      simp only [Act.put, List.getElem_toArray, List.getElem_cons_succ, List.getElem_cons_zero, List.setIfInBounds_toArray, List.set_cons_zero, List.set_cons_succ]
      refine wpAnyH_take (i := 3) (oi := _) (v := ?v3a) rfl (by kernel_rfl) (by kernel_rfl) (by kernel_rfl) (fun _ _ _ h => h) (Or.inl ⟨by rfl, ?hy3a⟩) (by assumption) ?rest3a
      case hy3a => (intro V hSw; (try dsimp only at hSw); go_simp) <;> with_reducible rfl
      simp only [Act.put, List.getElem_toArray, List.getElem_cons_succ, List.getElem_cons_zero, List.setIfInBounds_toArray, List.set_cons_zero, List.set_cons_succ]
      refine wpAnyH_take (i := 4) (oi := _) (v := undef) rfl (by kernel_rfl) (by kernel_rfl) (by kernel_rfl) (fun _ _ _ h => h) (Or.inr ⟨by rfl, rfl⟩) (by assumption) ?rest4a
      simp only [Act.put, List.getElem_toArray, List.getElem_cons_succ, List.getElem_cons_zero, List.setIfInBounds_toArray, List.set_cons_zero, List.set_cons_succ]
      refine wpAnyH_take (i := 5) (oi := _) (v := undef) rfl (by kernel_rfl) (by kernel_rfl) (by kernel_rfl) (fun _ _ _ h => h) (Or.inr ⟨by rfl, rfl⟩) (by assumption) ?rest5a
      simp only [Act.put, List.getElem_toArray, List.getElem_cons_succ, List.getElem_cons_zero, List.setIfInBounds_toArray, List.set_cons_zero, List.set_cons_succ]
      refine wpAnyH_take (i := 6) (oi := _) (v := undef) rfl (by kernel_rfl) (by kernel_rfl) (by kernel_rfl) (fun _ _ _ h => h) (Or.inr ⟨by rfl, rfl⟩) (by assumption) ?rest6a
      simp only [Act.put, List.getElem_toArray, List.getElem_cons_succ, List.getElem_cons_zero, List.setIfInBounds_toArray, List.set_cons_zero, List.set_cons_succ]
      refine wpAnyH_take (i := 7) (oi := _) (v := undef) rfl (by kernel_rfl) (by kernel_rfl) (by kernel_rfl) (fun _ _ _ h => h) (Or.inr ⟨by rfl, rfl⟩) (by assumption) ?rest7a
      simp only [Act.put, List.getElem_toArray, List.getElem_cons_succ, List.getElem_cons_zero, List.setIfInBounds_toArray, List.set_cons_zero, List.set_cons_succ]
      refine wpAnyH_take (i := 8) (oi := _) (v := undef) rfl (by kernel_rfl) (by kernel_rfl) (by kernel_rfl) (fun _ _ _ h => h) (Or.inr ⟨by rfl, rfl⟩) (by assumption) ?rest8a
      simp only [Act.put, List.getElem_toArray, List.getElem_cons_succ, List.getElem_cons_zero, List.setIfInBounds_toArray, List.set_cons_zero, List.set_cons_succ]
      refine wpAnyH_take (i := 9) (oi := _) (v := undef) rfl (by kernel_rfl) (by kernel_rfl) (by kernel_rfl) (fun _ _ _ h => h) (Or.inr ⟨by rfl, rfl⟩) (by assumption) ?rest9a
      simp only [Act.put, List.getElem_toArray, List.getElem_cons_succ, List.getElem_cons_zero, List.setIfInBounds_toArray, List.set_cons_zero, List.set_cons_succ]
      refine wpAnyH_take (i := 10) (oi := _) (v := undef) rfl (by kernel_rfl) (by kernel_rfl) (by kernel_rfl) (fun _ _ _ h => h) (Or.inr ⟨by rfl, rfl⟩) (by assumption) ?rest10a
      simp only [Act.put, List.getElem_toArray, List.getElem_cons_succ, List.getElem_cons_zero, List.setIfInBounds_toArray, List.set_cons_zero, List.set_cons_succ]
      refine wpAnyH_take (i := 11) (oi := _) (v := undef) rfl (by kernel_rfl) (by kernel_rfl) (by kernel_rfl) (fun _ _ _ h => h) (Or.inr ⟨by rfl, rfl⟩) (by assumption) ?rest11a
      simp only [Act.put, List.getElem_toArray, List.getElem_cons_succ, List.getElem_cons_zero, List.setIfInBounds_toArray, List.set_cons_zero, List.set_cons_succ]
      refine wpAnyH_take (i := 12) (oi := _) (v := undef) rfl (by kernel_rfl) (by kernel_rfl) (by kernel_rfl) (fun _ _ _ h => h) (Or.inr ⟨by rfl, rfl⟩) (by assumption) ?rest12a
      simp only [Act.put, List.getElem_toArray, List.getElem_cons_succ, List.getElem_cons_zero, List.setIfInBounds_toArray, List.set_cons_zero, List.set_cons_succ]
      refine wpAnyH_take (i := 13) (oi := _) (v := ?v13a) rfl (by kernel_rfl) (by kernel_rfl) (by kernel_rfl) (fun _ _ _ h => h) (Or.inl ⟨by rfl, ?hy13a⟩) (by assumption) ?rest13a
      case hy13a => (intro V hSw; (try dsimp only at hSw); go_simp) <;> with_reducible rfl
      simp only [Act.put, List.getElem_toArray, List.getElem_cons_succ, List.getElem_cons_zero, List.setIfInBounds_toArray, List.set_cons_zero, List.set_cons_succ]
      refine wpAnyH_done (by kernel_rfl) ?_ _
      clear cb
      obtain ⟨W1, hW1⟩ : ∃ W1, W1 = W.drew := ⟨_, rfl⟩
      rw [← hW1]
      have gW1 : W.grownBy W1 none := by rw [hW1]; exact grown_drew (World.grownBy.refl W none)
      have H1 := Lib.hid (And.intro (HB.out.1.grown gW1 (by simp)) (And.intro (HB.out.2.2.2.2.2.1.grown gW1 (by simp)) gW1))
      have c0' := gW1.cell c0 (by simp)
      clear hW1 gW1 c0
      gi_wp2_with (first
        | (refine wpListIn_load_row rfl 26 _ rfl q rfl 26 gv (0, 0) _ H1.out.1 Tryz.underlying26 rfl (by rw [HX.out.2.2.1]; exact info18) ?_)
        | (refine wpListIn_load_row rfl 155 _ rfl g rfl 155 cv (0, 0) _ H1.out.2.1 Tryz.underlying155 rfl (by rw [HC.out.1]; exact info20c) ?_))
      refine ⟨trivial, ?_⟩
      refine (CallsIn.inRound l (callsIn_wide.2 (HH.out W1 H1.out.2.2))).mono ?_
      rintro e2 W2 ⟨rfl, g2⟩
      cases r
      · rw [show evOf E (holdN false) = errV (E 11) from rfl]
        have G2 := Lib.hid g2
        have gW2 := grown_trans H1.out.2.2 g2
        have cr := (HB.out.2.1.grown gW2 (by simp)).cell 0
        have fr := (HB.out.2.1.grown gW2 (by simp)).frozen 0
        simp only [List.getElem?_toArray, List.getElem?_cons_zero] at cr
        have HG2 := Lib.hid gW2
        clear gW2 g2
        gi_wp2
        have hg6 := grownBy_setCell' W2 (q + 1) (errV (E 11))
        refine ⟨((keeps_grown HG2.out).trans (KeepsOthers.setCell _ _ _)).from _, ⟨rfl, ?_⟩, (HB.out.2.1.grown HG2.out (by simp)).set 0 _, grown_fresh (grown_trans HB.out.2.2.2.2.2.2 HG2.out) hg6 (by have := HX.out.2.2.2.1; omega)⟩
        intro hgd
        have := (hgd _ (HN.out.1) x HN.out.2.1).1
        rw [← HN.out.2.2.1] at this
        cases this
      · rw [show evOf E (holdN true) = .nilIface from rfl]
        have gW2 := grown_trans H1.out.2.2 g2
        have b2' := HB.out.2.2.1.grown gW2 (by simp)
        have cv2 := b2'.cell 0
        simp only [List.getElem?_toArray, List.getElem?_cons_zero] at cv2
        have c0'' := g2.cell c0' (by simp)
        have HG2 := Lib.hid (And.intro gW2 (own_keep HB.out.2.2.2.1 gW2))
        have HO2 := Lib.hid (HG2.out.2.alloc (.cells #[.int .i64 who] 3))
        have HB2 := Lib.hid (b2'.alloc (.cells #[.int .i64 who] 3))
        have HGA := Lib.hid (grown_trans gW2 (World.grownBy_alloc W2 (.cells #[.int .i64 who] 3) none))
        clear gW2 g2 b2' c0'
        gi_wp2_with (first
          | (gi_at_builtin; refine wpListIn_push_one _ rfl _ _ 153 rfl (q + 3) 3 i0 _ 8 Tryz.underlying153 HI0.out.1 HI0.out.2.1 HI0.out.2.2.1 HI0.out.2.2.2 rfl _ _ _ rfl HO2.out ⟨W2.heap.size, 0, none⟩ 1 (.int .i64 who) rfl (Blk.cell (Blk.new _ _ _) 0) rfl (by have := good_cap HX.out.2.2.2.2.1 HN.out.2.2.2.2.2.1 (Nat.le_of_lt HN.out.1); omega) (by omega) (by have := HG2.out.1.size; have := HB.out.2.2.2.2.1.size; simp only [World.size_alloc]; omega) ?_; intro A' c' w3 hown3 hg3 hat3; have hb3 := HB2.out.grown hg3 (fun e => by have := (HO2.out.lt _ e.symm).1; omega); have q3 := Lib.hid (And.intro hown3 (And.intro hg3 hb3)); have cb3 := hb3.cell 0; have fb3 := hb3.frozen 0; simp only [List.getElem?_toArray, List.getElem?_cons_zero] at cb3; clear hown3 hg3 hat3 hb3))
        have hg6 := grownBy_setCell' w3 (q + 1 + 1) (Value.slice A' (pre.length + 1) c')
        have hne : ∀ b, b < q + 1 + 1 → some b ≠ Value.ownBlock (.slice A2 0 cap) ∧ some b ≠ some (q + 1 + 1) := fun b hb => ⟨fun e => by have := (HO2.out.lt _ e.symm).1; omega, fun e => by have := Option.some.inj e; omega⟩
        have hq := HX.out.2.2.2.1
        have hs0 := HB.out.2.2.2.2.1.size
        have hs1 := HX.out.2.1
        have hs2 := HGA.out.size
        have hs3 := q3.out.2.1.size
        have hpl : (pre ++ [x]).length = pre.length + 1 := by simp
        refine ⟨(((keeps_grown HGA.out).trans (keeps_own q3.out.2.1 HO2.out)).trans (KeepsOthers.setCell _ _ _)).from _,
          ((KpV.grown HGA.out (by omega)).trans (KpV.to q3.out.2.1 (by omega) (fun b e => ⟨by have := (HO2.out.lt _ e).1; omega, own_type HO2.out e (by decide)⟩))).trans (KpV.to hg6 (by omega) (fun b e => by
            have := Option.some.inj e
            subst this
            exact ⟨by omega, fun cs fr h => by rw [q3.out.2.2] at h; cases h⟩)),
          _, ((HB.out.1.grown HGA.out (by simp)).grown q3.out.2.1 (hne _ (by omega)).1).grown hg6 (hne _ (by omega)).2, ((HB.out.2.1.grown HGA.out (by simp)).grown q3.out.2.1 (hne _ (by omega)).1).grown hg6 (hne _ (by omega)).2, q3.out.2.2.set 0 _, ?_, ⟨?_, ?_⟩, grown_trans (grown_own_r (grown_trans HB.out.2.2.2.2.1 (grown_weak HGA.out _)) q3.out.2.1 HO2.out (by omega)) hg6⟩
        · have := q3.out.1.kept hg6 (.inr (Boxed.not_row (t := 153) q3.out.2.2 (by decide) q3.out.1).symm)
          rw [hpl, whoL, List.map_append, List.map_append]
          rw [HN.out.2.2.2.1] at this
          exact this
        · rw [hpl]; exact pre_snoc HN.out.2.2.2.2.1 HN.out.2.1
        · rw [hpl]; exact good_snoc HN.out.2.2.2.2.2.1 (HJ.out.2 (by first | rfl | trivial))
    · obtain ⟨gb, cap, rfl⟩ := own_row1 hown
      have hj : j < L.length := by have := HN.out.1; omega
      obtain ⟨wy, hwy⟩ : ∃ wy, wy = (sg L[j]).who := ⟨_, rfl⟩
      have hyj : L[pre.length - 1]? = some L[j] := by rw [hk, Nat.add_sub_cancel]; exact List.getElem?_eq_getElem hj
      have hcy : W.cell? ⟨gb, j, none⟩ = some (.int .i64 wy) := own_cell hown (by
        rw [HN.out.2.2.2.2.1, hk, whoL, List.map_map, List.getElem?_map, List.getElem?_take_of_lt (by omega), List.getElem?_eq_getElem hj, hwy]
        rfl)
      have HJ := Lib.hid (show (wy < who → (stepOk V dg sg L pre.length ↔ r = true)) ∧ (¬ wy < who → ¬ goodTo V dg sg L L.length) from ⟨fun hlt => ⟨fun h => by rw [HN.out.2.2.1]; exact (h x HN.out.2.1).1, fun h y hy => by
        rw [HN.out.2.1] at hy
        cases hy
        exact ⟨by rw [← HN.out.2.2.1]; exact h, fun z _ hz => by
          rw [hyj] at hz
          cases hz
          rw [← hwy, ← HN.out.2.2.2.1]; exact hlt⟩⟩, fun hlt hgd => hlt (by
          have := (hgd _ HN.out.1 x HN.out.2.1).2 _ (by omega) hyj
          rwa [← hwy, ← HN.out.2.2.2.1] at this)⟩)
      have hj63 : (j : Int) < 100 := by have := good_cap HX.out.2.2.2.2.1 HN.out.2.2.2.2.2.1 (Nat.le_of_lt HN.out.1); omega
      have hjn : (0 : Int) ≤ (j : Int) := by omega
      have hwr : IntKind.i64.wrap (j : Int) = (j : Int) := by rw [IntKind.wrap_i64]; omega
      have hlj : (j : Int) < (j : Int) + 1 := by omega
      clear hown hgood hx hk hj hwy hyj
      by_cases hlt : wy < who
      · have d1 : decide (who ≤ wy) = false := by simp; omega
        have HJ' := Lib.hid (HJ.out.1 hlt)
        clear hlt
        gi_wp2
        refine wpIn_region_held_round (S := fun V => V.cell? ⟨q + 1 + 1, 0, none⟩ = some (.slice (some ⟨gb, 0, none⟩) (j + 1) cap) ∧ V.cell? ⟨g, 0, none⟩ = some (.int .i64 who) ∧ V.cell? ⟨gb, j, none⟩ = some (.int .i64 wy)) (by kernel_rfl) (by kernel_rfl) (by rintro ⟨_, _, h⟩; exact h) ⟨(grown_drew (World.grownBy.refl W none)).cell cb (by simp), (grown_drew (World.grownBy.refl W none)).cell c0 (by simp), (grown_drew (World.grownBy.refl W none)).cell hcy (by simp)⟩ (fun _ => ?_)
        refine wpAnyH_take (i := 0) (oi := _) (v := ?v0b) rfl (by kernel_rfl) (by kernel_rfl) (by kernel_rfl) (fun _ _ _ h => h) (Or.inl ⟨by rfl, ?hy0b⟩) (by assumption) ?rest0b
        case hy0b => (intro V hSw; (try dsimp only at hSw); go_simp) <;> with_reducible rfl
        simp only [Act.put, List.getElem_toArray, List.getElem_cons_zero, List.setIfInBounds_toArray, List.set_cons_zero, List.set_cons_succ]
        refine wpAnyH_take (i := 1) (oi := _) (v := ?v1b) rfl (by kernel_rfl) (by kernel_rfl) (by kernel_rfl) (fun _ _ _ h => h) (Or.inl ⟨by rfl, ?hy1b⟩) (by assumption) ?rest1b
        case hy1b => (intro V hSw; (try dsimp only at hSw); go_simp) <;> with_reducible rfl
        simp only [Act.put, List.getElem_toArray, List.getElem_cons_succ, List.getElem_cons_zero, List.setIfInBounds_toArray, List.set_cons_zero, List.set_cons_succ]
        refine wpAnyH_take (i := 2) (oi := _) (v := ?v2b) rfl (by kernel_rfl) (by kernel_rfl) (by kernel_rfl) (fun _ _ _ h => h) (Or.inl ⟨by rfl, ?hy2b⟩) (by assumption) ?rest2b
        case hy2b => (intro V hSw; (try dsimp only at hSw); go_simp) <;> with_reducible rfl
        simp only [Act.put, List.getElem_toArray, List.getElem_cons_succ, List.getElem_cons_zero, List.setIfInBounds_toArray, List.set_cons_zero, List.set_cons_succ]
        refine wpAnyH_take (i := 3) (oi := _) (v := ?v3b) rfl (by kernel_rfl) (by kernel_rfl) (by kernel_rfl) (fun _ _ _ h => h) (Or.inl ⟨by rfl, ?hy3b⟩) (by assumption) ?rest3b
        case hy3b => (intro V hSw; (try dsimp only at hSw); go_simp) <;> with_reducible rfl
        simp only [Act.put, List.getElem_toArray, List.getElem_cons_succ, List.getElem_cons_zero, List.setIfInBounds_toArray, List.set_cons_zero, List.set_cons_succ]
        refine wpAnyH_take (i := 4) (oi := _) (v := ?v4b) rfl (by kernel_rfl) (by kernel_rfl) (by kernel_rfl) (fun _ _ _ h => h) (Or.inl ⟨by rfl, ?hy4b⟩) (by assumption) ?rest4b
        case hy4b => (intro V hSw; (try dsimp only at hSw); go_simp) <;> with_reducible rfl
        simp only [Act.put, List.getElem_toArray, List.getElem_cons_succ, List.getElem_cons_zero, List.setIfInBounds_toArray, List.set_cons_zero, List.set_cons_succ]
        refine wpAnyH_take (i := 5) (oi := _) (v := ?v5b) rfl (by kernel_rfl) (by kernel_rfl) (by kernel_rfl) (fun _ _ _ h => h) (Or.inl ⟨by rfl, ?hy5b⟩) (by assumption) ?rest5b
        case hy5b => (intro V hSw; (try dsimp only at hSw); go_simp) <;> with_reducible rfl
        simp only [Act.put, List.getElem_toArray, List.getElem_cons_succ, List.getElem_cons_zero, List.setIfInBounds_toArray, List.set_cons_zero, List.set_cons_succ]
        refine wpAnyH_take (i := 6) (oi := _) (v := ?v6b) rfl (by kernel_rfl) (by kernel_rfl) (by kernel_rfl) (fun _ _ _ h => h) (Or.inl ⟨by rfl, ?hy6b⟩) (by assumption) ?rest6b
        case hy6b => (intro V hSw; (try dsimp only at hSw); go_simp) <;> with_reducible rfl
        simp only [Act.put, List.getElem_toArray, List.getElem_cons_succ, List.getElem_cons_zero, List.setIfInBounds_toArray, List.set_cons_zero, List.set_cons_succ]
        refine wpAnyH_take (i := 7) (oi := _) (v := ?v7b) rfl (by kernel_rfl) (by kernel_rfl) (by kernel_rfl) (fun _ _ _ h => h) (Or.inl ⟨by rfl, ?hy7b⟩) (by assumption) ?rest7b
        case hy7b => (intro V hSw; (try dsimp only at hSw); go_simp) <;> with_reducible rfl
        simp only [Act.put, List.getElem_toArray, List.getElem_cons_succ, List.getElem_cons_zero, List.setIfInBounds_toArray, List.set_cons_zero, List.set_cons_succ]
        refine wpAnyH_take (i := 8) (oi := _) (v := ?v8b) rfl (by kernel_rfl) (by kernel_rfl) (by kernel_rfl) (fun _ _ _ h => h) (Or.inl ⟨by rfl, ?hy8b⟩) (by assumption) ?rest8b
        case hy8b => (intro V hSw; (try dsimp only at hSw); go_simp) <;> with_reducible rfl
        simp only [Act.put, List.getElem_toArray, List.getElem_cons_succ, List.getElem_cons_zero, List.setIfInBounds_toArray, List.set_cons_zero, List.set_cons_succ]
        refine wpAnyH_take (i := 9) (oi := _) (v := ?v9b) rfl (by kernel_rfl) (by kernel_rfl) (by kernel_rfl) (fun _ _ _ h => h) (Or.inl ⟨by rfl, ?hy9b⟩) (by assumption) ?rest9b
        case hy9b => (intro V hSw; (try dsimp only at hSw); go_simp; (try rw [hwr])) <;> with_reducible rfl
        simp only [Act.put, List.getElem_toArray, List.getElem_cons_succ, List.getElem_cons_zero, List.setIfInBounds_toArray, List.set_cons_zero, List.set_cons_succ]
        refine wpAnyH_take (i := 10) (oi := _) (v := ?v10b) rfl (by kernel_rfl) (by kernel_rfl) (by kernel_rfl) (fun _ _ _ h => h) (Or.inl ⟨by rfl, ?hy10b⟩) (by assumption) ?rest10b
        case hy10b => (intro V hSw; (try dsimp only at hSw); go_simp) <;> with_reducible rfl
        simp only [Act.put, List.getElem_toArray, List.getElem_cons_succ, List.getElem_cons_zero, List.setIfInBounds_toArray, List.set_cons_zero, List.set_cons_succ]
        refine wpAnyH_take (i := 11) (oi := _) (v := ?v11b) rfl (by kernel_rfl) (by kernel_rfl) (by kernel_rfl) (fun _ _ _ h => h) (Or.inl ⟨by rfl, ?hy11b⟩) (by assumption) ?rest11b
        case hy11b => (intro V hSw; (try dsimp only at hSw); go_simp) <;> with_reducible rfl
        simp only [Act.put, List.getElem_toArray, List.getElem_cons_succ, List.getElem_cons_zero, List.setIfInBounds_toArray, List.set_cons_zero, List.set_cons_succ]
        refine wpAnyH_take (i := 12) (oi := _) (v := ?v12b) rfl (by kernel_rfl) (by kernel_rfl) (by kernel_rfl) (fun _ _ _ h => h) (Or.inl ⟨by rfl, ?hy12b⟩) (by assumption) ?rest12b
        case hy12b => (intro V hSw; (try dsimp only at hSw); go_simp) <;> with_reducible rfl
        simp only [Act.put, List.getElem_toArray, List.getElem_cons_succ, List.getElem_cons_zero, List.setIfInBounds_toArray, List.set_cons_zero, List.set_cons_succ]
        refine wpAnyH_take (i := 13) (oi := _) (v := ?v13b) rfl (by kernel_rfl) (by kernel_rfl) (by kernel_rfl) (fun _ _ _ h => h) (Or.inl ⟨by rfl, ?hy13b⟩) (by assumption) ?rest13b
        case hy13b => (intro V hSw; (try dsimp only at hSw); go_simp) <;> with_reducible rfl
        simp only [Act.put, List.getElem_toArray, List.getElem_cons_succ, List.getElem_cons_zero, List.setIfInBounds_toArray, List.set_cons_zero, List.set_cons_succ]
        refine wpAnyH_done (by kernel_rfl) ?_ _
        clear cb hcy
        obtain ⟨W1, hW1⟩ : ∃ W1, W1 = W.drew := ⟨_, rfl⟩
        rw [← hW1]
        have gW1 : W.grownBy W1 none := by rw [hW1]; exact grown_drew (World.grownBy.refl W none)
        have H1 := Lib.hid (And.intro (HB.out.1.grown gW1 (by simp)) (And.intro (HB.out.2.2.2.2.2.1.grown gW1 (by simp)) gW1))
        have c0' := gW1.cell c0 (by simp)
        clear hW1 gW1 c0
        gi_wp2_with (first
          | (refine wpListIn_load_row rfl 26 _ rfl q rfl 26 gv (0, 0) _ H1.out.1 Tryz.underlying26 rfl (by rw [HX.out.2.2.1]; exact info18) ?_)
          | (refine wpListIn_load_row rfl 155 _ rfl g rfl 155 cv (0, 0) _ H1.out.2.1 Tryz.underlying155 rfl (by rw [HC.out.1]; exact info20c) ?_))
        refine ⟨trivial, ?_⟩
        refine (CallsIn.inRound l (callsIn_wide.2 (HH.out W1 H1.out.2.2))).mono ?_
        rintro e2 W2 ⟨rfl, g2⟩
        cases r
        · rw [show evOf E (holdN false) = errV (E 11) from rfl]
          have G2 := Lib.hid g2
          have gW2 := grown_trans H1.out.2.2 g2
          have cr := (HB.out.2.1.grown gW2 (by simp)).cell 0
          have fr := (HB.out.2.1.grown gW2 (by simp)).frozen 0
          simp only [List.getElem?_toArray, List.getElem?_cons_zero] at cr
          have HG2 := Lib.hid gW2
          clear gW2 g2
          gi_wp2
          have hg6 := grownBy_setCell' W2 (q + 1) (errV (E 11))
          refine ⟨((keeps_grown HG2.out).trans (KeepsOthers.setCell _ _ _)).from _, ⟨rfl, ?_⟩, (HB.out.2.1.grown HG2.out (by simp)).set 0 _, grown_fresh (grown_trans HB.out.2.2.2.2.2.2 HG2.out) hg6 (by have := HX.out.2.2.2.1; omega)⟩
          intro hgd
          have := (hgd _ (HN.out.1) x HN.out.2.1).1
          rw [← HN.out.2.2.1] at this
          cases this
        · rw [show evOf E (holdN true) = .nilIface from rfl]
          have gW2 := grown_trans H1.out.2.2 g2
          have b2' := HB.out.2.2.1.grown gW2 (by simp)
          have cv2 := b2'.cell 0
          simp only [List.getElem?_toArray, List.getElem?_cons_zero] at cv2
          have c0'' := g2.cell c0' (by simp)
          have HG2 := Lib.hid (And.intro gW2 (own_keep HB.out.2.2.2.1 gW2))
          have HO2 := Lib.hid (HG2.out.2.alloc (.cells #[.int .i64 who] 3))
          have HB2 := Lib.hid (b2'.alloc (.cells #[.int .i64 who] 3))
          have HGA := Lib.hid (grown_trans gW2 (World.grownBy_alloc W2 (.cells #[.int .i64 who] 3) none))
          clear gW2 g2 b2' c0'
          gi_wp2_with (first
            | (gi_at_builtin; refine wpListIn_push_one _ rfl _ _ 153 rfl (q + 3) 3 i0 _ 8 Tryz.underlying153 HI0.out.1 HI0.out.2.1 HI0.out.2.2.1 HI0.out.2.2.2 rfl _ _ _ rfl HO2.out ⟨W2.heap.size, 0, none⟩ 1 (.int .i64 who) rfl (Blk.cell (Blk.new _ _ _) 0) rfl (by have := good_cap HX.out.2.2.2.2.1 HN.out.2.2.2.2.2.1 (Nat.le_of_lt HN.out.1); omega) (by omega) (by have := HG2.out.1.size; have := HB.out.2.2.2.2.1.size; simp only [World.size_alloc]; omega) ?_; intro A' c' w3 hown3 hg3 hat3; have hb3 := HB2.out.grown hg3 (fun e => by have := (HO2.out.lt _ e.symm).1; omega); have q3 := Lib.hid (And.intro hown3 (And.intro hg3 hb3)); have cb3 := hb3.cell 0; have fb3 := hb3.frozen 0; simp only [List.getElem?_toArray, List.getElem?_cons_zero] at cb3; clear hown3 hg3 hat3 hb3))
          have hg6 := grownBy_setCell' w3 (q + 1 + 1) (Value.slice A' (pre.length + 1) c')
          have hne : ∀ b, b < q + 1 + 1 → some b ≠ Value.ownBlock (.slice (some ⟨gb, 0, none⟩) (j + 1) cap) ∧ some b ≠ some (q + 1 + 1) := fun b hb => ⟨fun e => by have := (HO2.out.lt _ e.symm).1; omega, fun e => by have := Option.some.inj e; omega⟩
          have hq := HX.out.2.2.2.1
          have hs0 := HB.out.2.2.2.2.1.size
          have hs1 := HX.out.2.1
          have hs2 := HGA.out.size
          have hs3 := q3.out.2.1.size
          have hpl : (pre ++ [x]).length = pre.length + 1 := by simp
          refine ⟨(((keeps_grown HGA.out).trans (keeps_own q3.out.2.1 HO2.out)).trans (KeepsOthers.setCell _ _ _)).from _,
            ((KpV.grown HGA.out (by omega)).trans (KpV.to q3.out.2.1 (by omega) (fun b e => ⟨by have := (HO2.out.lt _ e).1; omega, own_type HO2.out e (by decide)⟩))).trans (KpV.to hg6 (by omega) (fun b e => by
              have := Option.some.inj e
              subst this
              exact ⟨by omega, fun cs fr h => by rw [q3.out.2.2] at h; cases h⟩)),
            _, ((HB.out.1.grown HGA.out (by simp)).grown q3.out.2.1 (hne _ (by omega)).1).grown hg6 (hne _ (by omega)).2, ((HB.out.2.1.grown HGA.out (by simp)).grown q3.out.2.1 (hne _ (by omega)).1).grown hg6 (hne _ (by omega)).2, q3.out.2.2.set 0 _, ?_, ⟨?_, ?_⟩, grown_trans (grown_own_r (grown_trans HB.out.2.2.2.2.1 (grown_weak HGA.out _)) q3.out.2.1 HO2.out (by omega)) hg6⟩
          · have := q3.out.1.kept hg6 (.inr (Boxed.not_row (t := 153) q3.out.2.2 (by decide) q3.out.1).symm)
            rw [hpl, whoL, List.map_append, List.map_append]
            rw [HN.out.2.2.2.1] at this
            exact this
          · rw [hpl]; exact pre_snoc HN.out.2.2.2.2.1 HN.out.2.1
          · rw [hpl]; exact good_snoc HN.out.2.2.2.2.2.1 (HJ'.out.2 (by first | rfl | trivial))
      · have d1 : decide (who ≤ wy) = true := by simp; omega
        have HJ' := Lib.hid (HJ.out.2 hlt)
        clear hlt
        gi_wp2
        refine wpIn_region_held_round (S := fun V => V.cell? ⟨q + 1 + 1, 0, none⟩ = some (.slice (some ⟨gb, 0, none⟩) (j + 1) cap) ∧ V.cell? ⟨g, 0, none⟩ = some (.int .i64 who) ∧ V.cell? ⟨gb, j, none⟩ = some (.int .i64 wy)) (by kernel_rfl) (by kernel_rfl) (by rintro ⟨_, _, h⟩; exact h) ⟨(grown_drew (World.grownBy.refl W none)).cell cb (by simp), (grown_drew (World.grownBy.refl W none)).cell c0 (by simp), (grown_drew (World.grownBy.refl W none)).cell hcy (by simp)⟩ (fun _ => ?_)
        refine wpAnyH_take (i := 0) (oi := _) (v := ?v0c) rfl (by kernel_rfl) (by kernel_rfl) (by kernel_rfl) (fun _ _ _ h => h) (Or.inl ⟨by rfl, ?hy0c⟩) (by assumption) ?rest0c
        case hy0c => (intro V hSw; (try dsimp only at hSw); go_simp) <;> with_reducible rfl
        simp only [Act.put, List.getElem_toArray, List.getElem_cons_zero, List.setIfInBounds_toArray, List.set_cons_zero, List.set_cons_succ]
        refine wpAnyH_take (i := 1) (oi := _) (v := ?v1c) rfl (by kernel_rfl) (by kernel_rfl) (by kernel_rfl) (fun _ _ _ h => h) (Or.inl ⟨by rfl, ?hy1c⟩) (by assumption) ?rest1c
        case hy1c => (intro V hSw; (try dsimp only at hSw); go_simp) <;> with_reducible rfl
        simp only [Act.put, List.getElem_toArray, List.getElem_cons_succ, List.getElem_cons_zero, List.setIfInBounds_toArray, List.set_cons_zero, List.set_cons_succ]
        refine wpAnyH_take (i := 2) (oi := _) (v := ?v2c) rfl (by kernel_rfl) (by kernel_rfl) (by kernel_rfl) (fun _ _ _ h => h) (Or.inl ⟨by rfl, ?hy2c⟩) (by assumption) ?rest2c
        case hy2c => (intro V hSw; (try dsimp only at hSw); go_simp) <;> with_reducible rfl
        simp only [Act.put, List.getElem_toArray, List.getElem_cons_succ, List.getElem_cons_zero, List.setIfInBounds_toArray, List.set_cons_zero, List.set_cons_succ]
        refine wpAnyH_take (i := 3) (oi := _) (v := ?v3c) rfl (by kernel_rfl) (by kernel_rfl) (by kernel_rfl) (fun _ _ _ h => h) (Or.inl ⟨by rfl, ?hy3c⟩) (by assumption) ?rest3c
        case hy3c => (intro V hSw; (try dsimp only at hSw); go_simp) <;> with_reducible rfl
        simp only [Act.put, List.getElem_toArray, List.getElem_cons_succ, List.getElem_cons_zero, List.setIfInBounds_toArray, List.set_cons_zero, List.set_cons_succ]
        refine wpAnyH_take (i := 4) (oi := _) (v := ?v4c) rfl (by kernel_rfl) (by kernel_rfl) (by kernel_rfl) (fun _ _ _ h => h) (Or.inl ⟨by rfl, ?hy4c⟩) (by assumption) ?rest4c
        case hy4c => (intro V hSw; (try dsimp only at hSw); go_simp) <;> with_reducible rfl
        simp only [Act.put, List.getElem_toArray, List.getElem_cons_succ, List.getElem_cons_zero, List.setIfInBounds_toArray, List.set_cons_zero, List.set_cons_succ]
        refine wpAnyH_take (i := 5) (oi := _) (v := ?v5c) rfl (by kernel_rfl) (by kernel_rfl) (by kernel_rfl) (fun _ _ _ h => h) (Or.inl ⟨by rfl, ?hy5c⟩) (by assumption) ?rest5c
        case hy5c => (intro V hSw; (try dsimp only at hSw); go_simp) <;> with_reducible rfl
        simp only [Act.put, List.getElem_toArray, List.getElem_cons_succ, List.getElem_cons_zero, List.setIfInBounds_toArray, List.set_cons_zero, List.set_cons_succ]
        refine wpAnyH_take (i := 6) (oi := _) (v := ?v6c) rfl (by kernel_rfl) (by kernel_rfl) (by kernel_rfl) (fun _ _ _ h => h) (Or.inl ⟨by rfl, ?hy6c⟩) (by assumption) ?rest6c
        case hy6c => (intro V hSw; (try dsimp only at hSw); go_simp) <;> with_reducible rfl
        simp only [Act.put, List.getElem_toArray, List.getElem_cons_succ, List.getElem_cons_zero, List.setIfInBounds_toArray, List.set_cons_zero, List.set_cons_succ]
        refine wpAnyH_take (i := 7) (oi := _) (v := ?v7c) rfl (by kernel_rfl) (by kernel_rfl) (by kernel_rfl) (fun _ _ _ h => h) (Or.inl ⟨by rfl, ?hy7c⟩) (by assumption) ?rest7c
        case hy7c => (intro V hSw; (try dsimp only at hSw); go_simp) <;> with_reducible rfl
        simp only [Act.put, List.getElem_toArray, List.getElem_cons_succ, List.getElem_cons_zero, List.setIfInBounds_toArray, List.set_cons_zero, List.set_cons_succ]
        refine wpAnyH_take (i := 8) (oi := _) (v := ?v8c) rfl (by kernel_rfl) (by kernel_rfl) (by kernel_rfl) (fun _ _ _ h => h) (Or.inl ⟨by rfl, ?hy8c⟩) (by assumption) ?rest8c
        case hy8c => (intro V hSw; (try dsimp only at hSw); go_simp) <;> with_reducible rfl
        simp only [Act.put, List.getElem_toArray, List.getElem_cons_succ, List.getElem_cons_zero, List.setIfInBounds_toArray, List.set_cons_zero, List.set_cons_succ]
        refine wpAnyH_take (i := 9) (oi := _) (v := ?v9c) rfl (by kernel_rfl) (by kernel_rfl) (by kernel_rfl) (fun _ _ _ h => h) (Or.inl ⟨by rfl, ?hy9c⟩) (by assumption) ?rest9c
        case hy9c => (intro V hSw; (try dsimp only at hSw); go_simp; (try rw [hwr])) <;> with_reducible rfl
        simp only [Act.put, List.getElem_toArray, List.getElem_cons_succ, List.getElem_cons_zero, List.setIfInBounds_toArray, List.set_cons_zero, List.set_cons_succ]
        refine wpAnyH_take (i := 10) (oi := _) (v := ?v10c) rfl (by kernel_rfl) (by kernel_rfl) (by kernel_rfl) (fun _ _ _ h => h) (Or.inl ⟨by rfl, ?hy10c⟩) (by assumption) ?rest10c
        case hy10c => (intro V hSw; (try dsimp only at hSw); go_simp) <;> with_reducible rfl
        simp only [Act.put, List.getElem_toArray, List.getElem_cons_succ, List.getElem_cons_zero, List.setIfInBounds_toArray, List.set_cons_zero, List.set_cons_succ]
        refine wpAnyH_take (i := 11) (oi := _) (v := ?v11c) rfl (by kernel_rfl) (by kernel_rfl) (by kernel_rfl) (fun _ _ _ h => h) (Or.inl ⟨by rfl, ?hy11c⟩) (by assumption) ?rest11c
        case hy11c => (intro V hSw; (try dsimp only at hSw); go_simp) <;> with_reducible rfl
        simp only [Act.put, List.getElem_toArray, List.getElem_cons_succ, List.getElem_cons_zero, List.setIfInBounds_toArray, List.set_cons_zero, List.set_cons_succ]
        refine wpAnyH_take (i := 12) (oi := _) (v := ?v12c) rfl (by kernel_rfl) (by kernel_rfl) (by kernel_rfl) (fun _ _ _ h => h) (Or.inl ⟨by rfl, ?hy12c⟩) (by assumption) ?rest12c
        case hy12c => (intro V hSw; (try dsimp only at hSw); go_simp) <;> with_reducible rfl
        simp only [Act.put, List.getElem_toArray, List.getElem_cons_succ, List.getElem_cons_zero, List.setIfInBounds_toArray, List.set_cons_zero, List.set_cons_succ]
        refine wpAnyH_take (i := 13) (oi := _) (v := ?v13c) rfl (by kernel_rfl) (by kernel_rfl) (by kernel_rfl) (fun _ _ _ h => h) (Or.inl ⟨by rfl, ?hy13c⟩) (by assumption) ?rest13c
        case hy13c => (intro V hSw; (try dsimp only at hSw); go_simp) <;> with_reducible rfl
        simp only [Act.put, List.getElem_toArray, List.getElem_cons_succ, List.getElem_cons_zero, List.setIfInBounds_toArray, List.set_cons_zero, List.set_cons_succ]
        refine wpAnyH_done (by kernel_rfl) ?_ _
        clear cb hcy
        obtain ⟨W1, hW1⟩ : ∃ W1, W1 = W.drew := ⟨_, rfl⟩
        rw [← hW1]
        have gW1 : W.grownBy W1 none := by rw [hW1]; exact grown_drew (World.grownBy.refl W none)
        have cr := (HB.out.2.1.grown gW1 (by simp)).cell 0
        have fr := (HB.out.2.1.grown gW1 (by simp)).frozen 0
        simp only [List.getElem?_toArray, List.getElem?_cons_zero] at cr
        have ce := HVE.out W1 gW1
        have HG2 := Lib.hid gW1
        clear gW1 hW1 c0
        gi_wp2
        have hg6 := grownBy_setCell' W1 (q + 1) (errV (E 11))
        exact ⟨((keeps_grown HG2.out).trans (KeepsOthers.setCell _ _ _)).from _, ⟨rfl, HJ'.out⟩, (HB.out.2.1.grown HG2.out (by simp)).set 0 _, grown_fresh (grown_trans HB.out.2.2.2.2.2.2 HG2.out) hg6 (by have := HX.out.2.2.2.1; omega)⟩
  case done =>
    rintro Dd xs W hD hxs hI hK
    have hI' : ∃ v, QI W0 q gv V dg sg L v L W := by rw [hxs] at hI; exact hI
    clear hI hxs
    obtain ⟨v, hB0, hB1, hB2, hown, ⟨_, hgood⟩, hG0⟩ := hI'
    obtain ⟨hR, he, hB4, hBw, hV, ok, hl, hG, hgv, hdg⟩ := HE.out
    have hGw : w.grownBy W none := grown_fresh HX.out.1 hG0 (by have := HX.out.2.2.2.1; omega)
    obtain ⟨A2, cap, hv, hcap, hints⟩ := own_ints hown
    subst hv
    have hwl : (whoL sg L).length = L.length := by simp [whoL]
    obtain ⟨x0, x1, _⟩ := gr_cellsK21 (hgv ▸ hB0)
    have cb := hB2.cell 0
    have cr := hB1.cell 0
    have fr := hB1.frozen 0
    simp only [List.getElem?_toArray, List.getElem?_cons_zero] at cb cr
    have heW := he.grown hGw (fun _ e => by cases e)
    have HC := Lib.hid (enough_is W A A2 c cap B V (whoL sg L) (E 10) (E 0) (E 16) (hV.grown hGw) ok hl hints (by rw [hwl]; exact good_cap HX.out.2.2.2.2.1 hgood (Nat.le_refl _)) hcap (Nat.le_trans hBw hGw.size) (heW.var 10 (by omega)) (heW.var 0 (by omega)) (heW.var 16 (by omega)))
    have ce : ∀ V', W.grownBy V' none → V'.cell? ⟨11, 0, none⟩ = some (errV (E 11)) := fun V' h => ((he.grown (grown_trans hGw h) (fun _ e => by cases e)).var 11 (by omega)).1
    have HVE := Lib.hid ce
    obtain ⟨n, hn⟩ : ∃ n, V.length = n := ⟨_, rfl⟩
    obtain ⟨m, hm⟩ : ∃ m, (whoL sg L).length = m := ⟨_, rfl⟩
    obtain ⟨r, hr⟩ : ∃ r, r = enoughS V (whoL sg L) := ⟨_, rfl⟩
    rw [hn] at HC x1
    rw [hm] at HC cb
    rw [← hr] at HC
    have hres : quorumB V dg sg L = r := by rw [quorumB, ← hr]; simp [hgood]
    have HRS := Lib.hid hres
    have HB := Lib.hid (And.intro hB1 (And.intro hGw (And.intro hK hD)))
    clear hB0 hB1 hB2 hown hgood hG0 hR he hB4 hBw hV ok hl hG hgv hdg hGw hcap hints hwl heW ce hn hm hr hres hK hD
    gi_wp2
    refine ⟨trivial, ?_⟩
    refine (callsIn_wide.2 HC.out).mono ?_
    rintro e2 W2 ⟨rfl, k2⟩
    have g2 := grown_below0 k2
    have ce2 := HVE.out W2 g2
    have HB2 := Lib.hid (HB.out.1.grown g2 (by simp))
    have HK2 := Lib.hid ((g2.block Dd (Array.getElem?_eq_some_iff.1 HB.out.2.2.1).1 (by simp)).trans HB.out.2.2.1)
    have HG2 := Lib.hid (grown_trans HB.out.2.1 g2)
    have cr2 := HB2.out.cell 0
    have fr2 := HB2.out.frozen 0
    simp only [List.getElem?_toArray, List.getElem?_cons_zero] at cr2
    clear k2 g2 x0 x1 cb cr fr
    cases r
    · gi_wp2
      have hg6 := grownBy_setCell' W2 (q + 1) (errV (E 11))
      have hK' : (W2.setCell ⟨q + 1, 0, none⟩ (errV (E 11))).heap[Dd]? = some (.deferred (some [])) := (hg6.block Dd (Array.getElem?_eq_some_iff.1 HK2.out).1 (fun e => by have := Option.some.inj e; have := HB.out.2.2.2; have := HX.out.2.1; omega)).trans HK2.out
      have hr1 : Blk ((W2.setCell ⟨q + 1, 0, none⟩ (errV (E 11))).putObj Dd (.deferred none)) (q + 1) 31 #[(errV (E 11))] := (show Blk (W2.setCell ⟨q + 1, 0, none⟩ (errV (E 11))) (q + 1) 31 #[(errV (E 11))] from HB2.out.set 0 _).grown (grownBy_putObj' _ Dd (.deferred none)) (fun e => by have := Option.some.inj e; have := HB.out.2.2.2; have := HX.out.2.1; omega)
      have hq := HX.out.2.2.2.1
      refine ⟨by simp, .inl ⟨_, _, rfl, run_takeDeferred hK', ?_⟩⟩
      refine ⟨(errV (E 11)), ?_, by rw [HRS.out]; rfl, grown_fresh (grown_fresh HG2.out hg6 (by omega)) (grownBy_putObj' _ Dd (.deferred none)) (by have := HB.out.2.2.2; have := HX.out.2.1; omega)⟩
      exact results_cell rfl _ _ _ ⟨q + 1, 0, none⟩ (errV (E 11)) rfl (load_err (hr1.cell 0))
    · gi_wp2
      have hg6 := grownBy_setCell' W2 (q + 1) Value.nilIface
      have hK' : (W2.setCell ⟨q + 1, 0, none⟩ Value.nilIface).heap[Dd]? = some (.deferred (some [])) := (hg6.block Dd (Array.getElem?_eq_some_iff.1 HK2.out).1 (fun e => by have := Option.some.inj e; have := HB.out.2.2.2; have := HX.out.2.1; omega)).trans HK2.out
      have hr1 : Blk ((W2.setCell ⟨q + 1, 0, none⟩ Value.nilIface).putObj Dd (.deferred none)) (q + 1) 31 #[Value.nilIface] := (show Blk (W2.setCell ⟨q + 1, 0, none⟩ Value.nilIface) (q + 1) 31 #[Value.nilIface] from HB2.out.set 0 _).grown (grownBy_putObj' _ Dd (.deferred none)) (fun e => by have := Option.some.inj e; have := HB.out.2.2.2; have := HX.out.2.1; omega)
      have hq := HX.out.2.2.2.1
      refine ⟨by simp, .inl ⟨_, _, rfl, run_takeDeferred hK', ?_⟩⟩
      refine ⟨Value.nilIface, ?_, by rw [HRS.out]; rfl, grown_fresh (grown_fresh HG2.out hg6 (by omega)) (grownBy_putObj' _ Dd (.deferred none)) (by have := HB.out.2.2.2; have := HX.out.2.1; omega)⟩
      exact results_cell rfl _ _ _ ⟨q + 1, 0, none⟩ Value.nilIface rfl (load_err (hr1.cell 0))
  case stop =>
    rintro Dd cd pre W hD _ ⟨⟨rfl, hng⟩, hB1, hGw⟩ hK
    have hr1 := hB1.grown (grownBy_putObj' W Dd (.deferred none)) (fun e => by have := Option.some.inj e; have := HX.out.2.1; omega)
    have hq := HX.out.2.2.2.1
    have hres : quorumB V dg sg L = false := by rw [quorumB]; simp [hng]
    gi_wp2
    refine ⟨by simp, .inl ⟨_, _, rfl, run_takeDeferred hK, ?_⟩⟩
    refine ⟨errV (E 11), ?_, by rw [hres]; rfl, grown_fresh hGw (grownBy_putObj' W Dd (.deferred none)) (by have := HX.out.2.1; omega)⟩
    exact results_cell rfl _ _ _ ⟨q + 1, 0, none⟩ (errV (E 11)) rfl (load_err (hr1.cell 0))
end
end Go.Proofs.YtmoebkdbnldbdaaGreatDoor
