/- GdO, Pf8 -/
import Derived.Test.YtigafnbofmiknaaGreatDoorW20u
import Derived.Test.YtigafnbofmiknaaGreatDoorW20h
import Derived.Deep.DeepCutAuto
import Derived.Deep.MidRow
import Derived.Sort.CutIn
import Derived.Maps.OwnIn
import Derived.Maps.OwnSet
import Derived.Sort.MapsRangeIn
import Derived.Deep.RegionHeld3
import Derived.Laws.Rows
import Derived.Test.YtigafnbofmiknaaGreatDoorW20g
import Derived.Test.YtigafnbofmiknaaGreatDoorW20r
import Derived.Test.YtigafnbofmiknaaGreatDoorW20m
namespace Go.Proofs.YtigafnbofmiknaaGreatDoor
set_option maxRecDepth 100000
set_option maxHeartbeats 10000000
open Go.RowKit
section
def forV (e r : Int) (d : List Int) : List Int := ofS 7 [b8 e, b8 r, d]
theorem ready_store_mid {P : Program} {ops : Array Oper} {o : Oper} {a : Act} {w : World} {K : Act -> World -> Prop} {Q : Exit -> Act -> World -> Prop} (hw : Region.wanted o (yielded ops a.tmps) = true) (ty : TypeId) (x y : Operand) (ho : o.op = .store ty x y)
    (b off : Nat) (cells : Array Value) (hx : a.eval x = .pointer (some ⟨b, off, none⟩)) (hy : a.eval y = .agg cells)
    (ht : w.there b off cells.size) (hi : (P.info? ty).map (·.size) = some cells.size) (h1 : cells.all (·.oneCell') = true)
    (h : K (a.put o.dst undef) (w.setCells b off cells.toList)) : if Region.wanted o (yielded ops a.tmps) = true then Oper.wp P o a w K Q else K (a.put o.dst undef) w := by
 rw [if_pos hw]
 unfold Oper.wp execOp
 simp only [ho, hx, hy, Sem.run_bind, Sem.run_pure, Result.andThen_ok, run_storeAt_mid w b off ty cells ht hi h1]
 exact h
theorem parts3 {w : World} {q : Nat} {A B C : Option Addr} {n1 c1 n2 c2 n3 c3 : Nat} {x y z : List Int} (h : Blk w q 81 #[.slice A n1 c1, .slice B n2 c2, .slice C n3 c3]) (h1 : x.length = n1) (h2 : y.length = n2) (h3 : z.length = n3) (l1 : n1 <= c1) (l2 : n2 <= c2) (l3 : n3 <= c3) (b1 : BytesI w A x) (b2 : BytesI w B y) (b3 : BytesI w C z) : PartsI w (some ⟨q, 0, none⟩) [x, y, z] := fun j hj => by
 have hj3 : j = 0 \/ j = 1 \/ j = 2 := by have : j < 3 := hj; omega
 have e := h.cell j
 rw [show (⟨q, j, none⟩ : Addr) = (⟨q, 0, none⟩ : Addr).add j by rw [Go.WideShapes.add_plain, Nat.zero_add]] at e
 rcases hj3 with rfl | rfl | rfl
 · exact ⟨_, A, n1, c1, rfl, e, h1, l1, b1⟩
 · exact ⟨_, B, n2, c2, rfl, e, h2, l2, b2⟩
 · exact ⟨_, C, n3, c3, rfl, e, h3, l3, b3⟩
theorem number_any (w : World) (n : Int) (hn : -9223372036854775808 <= n /\ n < 9223372036854775808) :
    Calls Tryz.prog 99 #[.int .i64 n] w fun e w' => ∃ p, e = .returned (.slice (some ⟨p, 0, none⟩) 8 8) /\ BytesI w' (some ⟨p, 0, none⟩) (b8 n) /\ w.grownBy w' none :=
 (number_is w n hn).mono fun _ _ h => ⟨_, h⟩
section
variable (w : World) (hR : Rounds w)
include hR
theorem forV_is (e r : Int) (he : -9223372036854775808 <= e /\ e < 9223372036854775808) (hr : -9223372036854775808 <= r /\ r < 9223372036854775808) (d : List Int) (hd : isDig d) (dd : Array Value) (hdd : dd = arrV .u8 d) :
    Calls Tryz.prog 78 #[.int .i64 e, .int .i64 r, .agg dd] w fun e' w' => e' = .returned (.agg (arrV .u8 (forV e r d))) /\ w.grownBy w' none := by
 obtain ⟨Z16, hZ16⟩ : ∃ Z, Z = arrV .u8 (List.replicate 16 0) := ⟨_, rfl⟩
 have hz16 : ∀ w, Sem.run Tryz.prog (zeroValue 24) w = .ok (.agg Z16) w := fun w => by rw [hZ16]; exact z16run w
 obtain ⟨q, hq⟩ : ∃ q, w.heap.size = q := ⟨_, rfl⟩
 obtain ⟨w1, hw1⟩ : ∃ w1, (w.alloc (.cells dd 24)).alloc (.cells Z16 24) = w1 := ⟨_, rfl⟩
 have b1 : Blk w1 q 24 dd := by rw [<- hw1, <- hq]; exact (Blk.new w _ _).alloc _
 have b2 : Blk w1 (q + 1) 24 Z16 := by
  have h := Blk.new (w.alloc (.cells dd 24)) 24 Z16
  rw [World.size_alloc, hw1, hq] at h
  exact h
 have g1 : w.grownBy w1 none := by rw [<- hw1]; exact za (gQ) (gQ)
 obtain ⟨V1, hV1⟩ : ∃ V1, w1.drew = V1 := ⟨_, rfl⟩
 have hb : Blk V1 (q + 1) 24 Z16 /\ w.grownBy V1 none /\ Blk V1 q 24 dd := by rw [<- hV1]; exact ⟨b2.drew, zh g1, b1.drew⟩
 have HB := hQ_ (aQ hb.1 (aQ hb.2.1 (aQ (show Z16.size = 16 by rw [hZ16]; rfl) (aQ hq hb.2.2))))
 have HW := hQ_ (aQ (aQ hw1 hV1) hR)
 have HSL := hQ_ (fun V : World => zbq V q)
 obtain ⟨F, hF⟩ : ∃ F, arrV .u8 (forV e r d) = F := ⟨_, rfl⟩
 have hFz : F.size = 16 := by rw [<- hF, zf]; exact zag _ _
 have hFo : (F.all fun v => v.oneCell') = true := by rw [<- hF]; exact zu _ _
 have HF := hQ_ (aQ hF (aQ hFz hFo))
 have HX := hQ_ (aQ he (aQ hr (aQ hd.1 hdd)))
 clear hR hZ16 b1 b2 g1 hw1 hV1 hF hFz hFo he hr hd hdd hb
 go_enter Tryz.func78, Tryz.ntmps78
 go_wp2_with fail
 clear hz16
 rw [HW.out.1.1]
 refine wp_region_held_drew (S := fun V => True) (by kernel_rfl) trivial (fun hHeld => ?_)
 rw [HW.out.1.2]
 refine wpAnyH_take (i := 0) (oi := _) (v := ?vv0) rfl (by kernel_rfl) (by kernel_rfl) (by kernel_rfl) (fun _ _ _ h => h) (Or.inl ⟨by rfl, ?hyv0⟩) (by assumption) ?restv0
 case hyv0 => (intro V hSw; (try dsimp only at hSw); go_simp) <;> with_reducible rfl
 try simp only [Act.put, List.getElem_toArray, List.getElem_cons_succ, List.getElem_cons_zero, List.setIfInBounds_toArray, List.set_cons_zero, List.set_cons_succ]
 refine wpAnyH_take (i := 2) (oi := _) (v := ?vv2) rfl (by kernel_rfl) (by kernel_rfl) (by kernel_rfl) (fun _ _ _ h => h) (Or.inl ⟨by rfl, ?hyv2⟩) (by assumption) ?restv2
 case hyv2 => (intro V hSw; (try dsimp only at hSw); go_simp) <;> with_reducible rfl
 try simp only [Act.put, List.getElem_toArray, List.getElem_cons_succ, List.getElem_cons_zero, List.setIfInBounds_toArray, List.set_cons_zero, List.set_cons_succ]
 refine wpAnyH_take (i := 4) (oi := _) (v := .slice (some ⟨q, 0, none⟩) 16 16) rfl (by kernel_rfl) (by kernel_rfl) (by kernel_rfl) (fun _ _ _ h => h) (Or.inl ⟨by rfl, ?hyv4⟩) (by assumption) ?restv4
 case hyv4 => intro V hSw; have hsl := HSL.out V; go_simp
 try simp only [Act.put, List.getElem_toArray, List.getElem_cons_succ, List.getElem_cons_zero, List.setIfInBounds_toArray, List.set_cons_zero, List.set_cons_succ]
 refine wpAnyH_ready (rs := [1]) (by kernel_rfl) (by simp) ?_
 refine (AllReadyH.cons (o := _) rfl (fun K9 hK => ?_) AllReadyH.nil)
 go_simp
 refine (number_any V1 e HX.out.1).mono ?_
 rintro e1 w2 ⟨p1, rfl, x1, g2⟩
 have H2 := hQ_ (aQ x1 g2)
 clear x1 g2
 (try go_wp2_with fail)
 refine hK.out _ _ trivial (fun hHeld => ?_)
 clear hK K9
 try simp only [Act.put, List.getElem_toArray, List.getElem_cons_succ, List.getElem_cons_zero, List.setIfInBounds_toArray, List.set_cons_zero, List.set_cons_succ]
 refine wpAnyH_ready (rs := [3]) (by kernel_rfl) (by simp) ?_
 refine (AllReadyH.cons (o := _) rfl (fun K9 hK => ?_) AllReadyH.nil)
 go_simp
 refine (number_any w2 r HX.out.2.1).mono ?_
 rintro e1 w3 ⟨p2, rfl, x2, g3⟩
 have H3 := hQ_ (aQ x2 g3)
 clear x2 g3
 (try go_wp2_with fail)
 refine hK.out _ _ trivial (fun hHeld => ?_)
 clear hK K9
 try simp only [Act.put, List.getElem_toArray, List.getElem_cons_succ, List.getElem_cons_zero, List.setIfInBounds_toArray, List.set_cons_zero, List.set_cons_succ]
 refine wpAnyH_ready (rs := [5]) (by kernel_rfl) (by simp) ?_
 refine (AllReadyH.cons (o := _) rfl (fun K9 hK => ?_) AllReadyH.nil)
 go_simp
 have g5 : w3.grownBy (w3.alloc (.cells #[.slice (some ⟨p1, 0, none⟩) 8 8, .slice (some ⟨p2, 0, none⟩) 8 8, .slice (some ⟨q, 0, none⟩) 16 16] 81)) none := gQ
 have b5 := Blk.new w3 81 #[.slice (some ⟨p1, 0, none⟩) 8 8, .slice (some ⟨p2, 0, none⟩) 8 8, .slice (some ⟨q, 0, none⟩) 16 16]
 obtain ⟨w5, hw5⟩ : ∃ w5, w3.alloc (.cells #[.slice (some ⟨p1, 0, none⟩) 8 8, .slice (some ⟨p2, 0, none⟩) 8 8, .slice (some ⟨q, 0, none⟩) 16 16] 81) = w5 := ⟨_, rfl⟩
 rw [hw5] at g5 b5 ⊢
 have g15 := za H2.out.2 (za H3.out.2 g5)
 have HO := hQ_ (of_is w5 (HW.out.2.grown (za HB.out.2.1 g15) (by simp)) 7 (some ⟨w3.heap.size, 0, none⟩) 3 3 [b8 e, b8 r, d] rfl (parts3 b5 rfl rfl HX.out.2.2.1 (Nat.le_refl _) (Nat.le_refl _) (Nat.le_refl _) (H2.out.1.grown (za H3.out.2 g5)) (H3.out.1.grown g5) (row_bytesI w5 q d (by rw [<- HX.out.2.2.2]; exact HB.out.2.2.2.2.grown g15 (by simp)))) (by omega) (fun p hp => by
  simp only [List.mem_cons, List.not_mem_nil, or_false] at hp
  rcases hp with rfl | rfl | rfl
  · rw [b8_length]; omega
  · rw [b8_length]; omega
  · rw [HX.out.2.2.1]; omega))
 have HG := hQ_ (aQ (HB.out.1.grown g15 (by simp)) (za HB.out.2.1 g15))
 clear g5 b5 g15 hw5
 refine hK.out _ _ trivial (fun hHeld => ?_)
 clear hK K9
 try simp only [Act.put, List.getElem_toArray, List.getElem_cons_succ, List.getElem_cons_zero, List.setIfInBounds_toArray, List.set_cons_zero, List.set_cons_succ]
 refine wpAnyH_ready (rs := [6]) (by kernel_rfl) (by simp) ?_
 refine (AllReadyH.cons (o := _) rfl (fun K9 hK => ?_) AllReadyH.nil)
 go_simp
 refine HO.out.mono ?_
 rintro e1 w6 ⟨rfl, g6⟩
 rw [show arrV .u8 (ofS 7 [b8 e, b8 r, d]) = F from HF.out.1]
 have HB3 := hQ_ (aQ (HG.out.1.grown g6 (by simp)) (za HG.out.2 g6))
 clear g6
 (try go_wp2_with fail)
 refine hK.out _ _ trivial (fun hHeld => ?_)
 clear hK K9
 try simp only [Act.put, List.getElem_toArray, List.getElem_cons_succ, List.getElem_cons_zero, List.setIfInBounds_toArray, List.set_cons_zero, List.set_cons_succ]
 refine wpAnyH_ready (rs := [7]) (by kernel_rfl) (by simp) ?_
 refine (AllReadyH.cons (o := _) rfl (fun K9 hK => ?_) AllReadyH.nil)
 refine ready_store_mid (by rfl) 24 _ _ rfl (q + 1) 0 F rfl rfl (zw HB3.out.1 (by rw [HF.out.2.1, HB.out.2.2.1]; exact Nat.le_refl _)) (by rw [HF.out.2.1]; exact info16) HF.out.2.2 ?_
 rw [zi (P := Tryz.prog) (ty := 24) HB3.out.1 (by rw [HF.out.2.1]; exact info16) (by rw [HF.out.2.1, HB.out.2.2.1]) HF.out.2.2]
 refine hK.out _ _ trivial (fun hHeld => ?_)
 clear hK K9
 try simp only [Act.put, List.getElem_toArray, List.getElem_cons_succ, List.getElem_cons_zero, List.setIfInBounds_toArray, List.set_cons_zero, List.set_cons_succ]
 refine wpAnyH_done (by kernel_rfl) ?_ _
 go_wp2_with fail
 refine bodyPost_ret (z5 rfl _ _ _ ⟨q + 1, 0, none⟩ (.agg F) rfl (run_loadVar_row _ (q + 1) 24 24 _ (0, 0) _ (HB3.out.1.row _) Tryz.underlying24 rfl (by rw [HF.out.2.1]; exact info16))) rfl ?_
 exact ⟨by rw [HF.out.1], zc HB3.out.2 (.inl (by rw [HB.out.2.2.2.1]; omega)) _⟩
end
end
section
open Go.RowKit Go.Shelf
attribute [local go_sem] Oper.semAt_some
def Sg.claim (D : Array Value) (s : Sg) : Array Value := clC s.who D s.lf (.slice s.A1 s.n1 s.c1) (.slice s.A2 s.n2 s.c2)
theorem info4s : (Tryz.prog.info? 89).map (·.size) = some 4 := by kernel_rfl
theorem info3s : (Tryz.prog.info? 87).map (·.size) = some 3 := by kernel_rfl
theorem zs_run (w : World) : Sem.run Tryz.prog (zeroValue 89) w = .ok (.agg sZ) w := zbr w (by kernel_rfl)
def KpV (n₀ : Nat) (A B : World) : Prop := Below n₀ A B /\ ∀ (k : Nat) (cs : Array Value) (fr : Nat × Nat), A.heap[k]? = some (Obj.cells cs 24 fr) -> B.heap[k]? = some (Obj.cells cs 24 fr)
theorem KpV.trans {n₀ : Nat} {A B C : World} (h : KpV n₀ A B) (k : KpV n₀ B C) : KpV n₀ A C := ⟨h.1.trans k.1, fun i cs fr hi => k.2 i cs fr (h.2 i cs fr hi)⟩
theorem KpV.grown {n₀ : Nat} {A B : World} (h : A.grownBy B none) (hn : n₀ <= A.heap.size) : KpV n₀ A B :=
 ⟨ua h hn (fun _ e => by cases e), fun k cs fr hk => (h.block k (Array.getElem?_eq_some_iff.1 hk).1 (fun e => by cases e)).trans hk⟩
theorem cl_build (w : World) (who lf : Int) (D : Array Value) (h : D.size = 16) (s1 s2 : Value) : Sem.run Tryz.prog (Instr.build 169 #[(0, .int .i64 who), (1, .agg D), (2, .agg (sigV lf s1 s2))]) w = .ok (.agg (clC who D lf s1 s2)) w := by
 obtain ⟨a0, a1, a2, a3, a4, a5, a6, a7, a8, a9, a10, a11, a12, a13, a14, a15, rfl⟩ := arr16p D h
 refine run_build w 169 _ _ ?_
 kernel_rfl
def intV : Value -> Int | .int _ q => q | _ => 0
theorem votes_in (F : Fence) (m : Nat) (qv : Array Value) (w : World) (h : F = Fence.wide) : CallsIn F m Tryz.prog 56 #[.agg qv] w fun e w' => e = .returned (.func (.func 77) #[] #[.pointer (some ⟨w.heap.size, 0, none⟩)]) /\
      w' = w.alloc (.cells qv 29) := by
 subst h
 refine callsIn_of_wp Tryz.func56 rfl trivial ?_ rfl
 simp only [Tryz.ntmps56, List.size_toArray, List.length_cons, List.length_nil, Nat.reduceAdd, Nat.reduceSub, Array.replicate_succ, Array.replicate_zero, List.push_toArray, List.append_toArray, List.nil_append, List.cons_append]
 gi_wp2
 go_ret
 exact ⟨rfl, rfl⟩
theorem votes1_in (m l q n₀ : Nat) (e r : Int) (he : -9223372036854775808 <= e /\ e < 9223372036854775808) (hr : -9223372036854775808 <= r /\ r < 9223372036854775808) (Bl : List Int) (hBl : isDig Bl) (Bv : Array Value) (hBv : Bv = arrV .u8 Bl) (A2 : Option Addr) (c2 : Nat) (L : List Sg) (hl : L.length < 9223372036854775808) (D : Array Value) (hD : D = arrV .u8 (forV e r Bl))
    (J Jx : List Sg -> World -> Prop) (hm : 2 <= m) (W : World) (hJ : AbidesFrom W.heap.size J)
    (hY : ∀ pre x V, J pre V -> L[pre.length]? = some x -> YieldAt Fence.wide (m - 1) Tryz.prog l #[.agg (x.claim D)] V fun e V' =>
     (e = .returned (.bool true) /\ J (pre ++ [x]) V' /\ KpV n₀ V V') \/ (e = .returned (.bool false) /\ Jx (pre ++ [x]) V'))
    (hq : Blk W q 29 (qcC e r Bv (.slice A2 L.length c2))) (hn : n₀ <= W.heap.size) (hR : Rounds W) (hA : SgsAt W A2 L) (hAn : ∀ a, A2 = some a -> L ≠ [] -> a.block < n₀) (h0 : J [] W) :
    CallsIn Fence.wide m Tryz.prog 77 #[.func (.yield l) #[] #[], .pointer (some ⟨q, 0, none⟩)] W fun e W' => (∃ v, e = .returned v) /\
     ((∃ ys, ys = L /\ J ys W') \/ (∃ pre, True /\ Jx pre W')) := by
 obtain ⟨Z16, hZ16⟩ : ∃ Z, Z = arrV .u8 (List.replicate 16 0) := ⟨_, rfl⟩
 have hz16 : ∀ w, Sem.run Tryz.prog (zeroValue 24) w = .ok (.agg Z16) w := fun w => by rw [hZ16]; exact z16run w
 have hz4 := zs_run
 have hB16 : Bv.size = 16 := by rw [hBv, zf, hBl.1]
 have hD16 : D.size = 16 := by rw [hD, zf]; exact (zbb _ _).1
 have hD1 : (D.all fun v => v.oneCell') = true := by rw [hD]; exact zu _ _
 have hZ : Z16.size = 16 := by rw [hZ16]; rfl
 obtain ⟨x0, x1, x2, x3⟩ := zbs hB16 hq
 obtain ⟨n, hLn⟩ : ∃ n, L.length = n := ⟨_, rfl⟩
 rw [hLn] at x3
 have HF := hQ_ (forV_is W hR e r he hr Bl hBl Bv hBv)
 have HX := hQ_ (aQ x2 (aQ hB16 (aQ hD (aQ hD16 (aQ hD1 hZ)))))
 have H0 := hQ_ h0
 have HJ := hQ_ hJ
 have HY := hQ_ hY
 have HL := hQ_ (aQ hl (aQ hA (aQ hAn (aQ hn hLn))))
 clear hZ16 hB16 hD16 hD1 hZ hD hBv hR he hr hBl x2 h0 hJ hY hl hA hAn hn hLn hq
 refine callsIn_of_wp Tryz.func77 rfl trivial ?_ rfl
 simp only [Tryz.ntmps77, List.size_toArray, List.length_cons, List.length_nil, Nat.reduceAdd, Nat.reduceSub, Array.replicate_succ, Array.replicate_zero, List.push_toArray, List.append_toArray, List.nil_append, List.cons_append]
 gi_wp2_with (first
  | (refine uc rfl 24 _ rfl q 2 rfl Bv.toList _ HX.out.1 Tryz.underlying24 rfl (by rw [Array.length_toList, HX.out.2.1]; exact zas) ?_; rw [Array.toArray_toList]))
 refine ⟨trivial, fun _ => by omega, ?_⟩
 refine (callsIn_wide.2 HF.out).mono ?_
 rintro e1 w2 ⟨rfl, g2⟩
 rw [<- HX.out.2.2.1]
 have G2 := hQ_ g2
 have xv := g2.cell x3 (by simp)
 clear g2 x0 x1 x3
 obtain ⟨w3, hw3⟩ : ∃ w3, w3 = (w2.alloc (.cells Z16 24)).setRow w2.heap.size D := ⟨_, rfl⟩
 obtain ⟨db, hdb⟩ : ∃ db, db = w2.heap.size := ⟨_, rfl⟩
 have H3 := hQ_ (show Blk w3 db 24 D /\ W.grownBy w3 none /\ W.heap.size <= db from by
  rw [hw3, hdb]
  have g3 := zc (World.grownBy_alloc w2 (.cells Z16 24) none) (.inl (Nat.le_refl _)) D
  exact ⟨(Blk.new w2 24 Z16).row D, za G2.out g3, G2.out.size⟩)
 have xv3 : w3.cell? ⟨q, 18, none⟩ = some (.slice A2 n c2) := by
  have g3 : w2.grownBy w3 none := by rw [hw3]; exact zc (World.grownBy_alloc w2 (.cells Z16 24) none) (.inl (Nat.le_refl _)) D
  exact g3.cell xv (by simp)
 have HW3 := hQ_ (aQ hw3 hdb)
 clear xv hw3 hdb
 gi_wp2_with (first
  | (refine yx rfl 24 _ _ rfl w2.heap.size D rfl rfl 24 _ (heap_alloc_new w2 _) (by rw [HX.out.2.2.2.1]; exact zas) (by rw [HX.out.2.2.2.1, HX.out.2.2.2.2.2]) HX.out.2.2.2.2.1 ?_
     rw [<- HW3.out.1, <- HW3.out.2]))
 gi_loopw [16] (fun i wr => ∃ k : Nat, k <= n /\ i = .int .i64 (k : Int) /\ J (L.take k) wr /\ Below n₀ W wr /\ Blk wr db 24 D /\ W.heap.size <= wr.heap.size) (fun i _ => n - (intV i).toNat)
 case atStart => exact ⟨0, Nat.zero_le _, rfl, by simpa using HJ.out _ _ _ none H0.out H3.out.2.1 (fun _ e => by cases e), ua H3.out.2.1 HL.out.2.2.2.1 (fun _ e => by cases e), H3.out.1, H3.out.2.1.size⟩
 case round =>
  obtain ⟨k, hkl, hi, hJk, hK, hDb, hsz⟩ := hrel
  obtain ⟨I, hI⟩ : ∃ I : Int, I = (k : Int) := ⟨_, rfl⟩
  rw [<- hI] at hi
  subst hi
  clear xv3
  obtain ⟨hl, hA, hAn, hn, hLn⟩ := HL.out
  by_cases hlt : k < n
  · have hlt' : k < L.length := by omega
    have hne : L ≠ [] := by rintro rfl; simp at hlt'
    obtain ⟨b, off, rfl, hc⟩ := hA hne
    have hbn : b < n₀ := hAn _ rfl hne
    have d1 : decide (I < (n : Int)) = true := by simp; omega
    have hIV : I < (n : Int) := by omega
    have hI0 : 0 <= I /\ I < 9223372036854775807 := by omega
    have hkI : I.toNat = k := by omega
    have r1 := zar (hc k hlt') hK hbn
    obtain ⟨x, hxe⟩ : ∃ x, x = L[k] := ⟨_, rfl⟩
    rw [<- hxe] at r1
    rw [<- hkI] at r1
    have htake : L.take (k + 1) = L.take k ++ [x] := by rw [<- List.take_append_getElem hlt', hxe]
    obtain ⟨cs, hcs⟩ : ∃ cs, cs = x.cells := ⟨_, rfl⟩
    have hc4 : cs.size = 4 := by rw [hcs]; rfl
    have hc1 : (cs.all fun v => v.oneCell') = true := by rw [hcs]; exact sg_one x
    rw [<- hcs] at r1
    obtain ⟨W0, hW0⟩ : ∃ W0, W0 = (wr.alloc (.cells sZ 89)).setRow wr.heap.size cs := ⟨_, rfl⟩
    have hG0 : wr.grownBy W0 none := by rw [hW0]; exact zc (World.grownBy_alloc wr _ none) (.inl (Nat.le_refl _)) cs
    have bS : Blk W0 wr.heap.size 89 cs := by rw [hW0]; exact (Blk.new wr 89 sZ).row cs
    have rS := yy bS
    have c0 : W0.cell? ⟨wr.heap.size, 0, none⟩ = some (.int .i64 x.who) := by have := rS 0 (.int .i64 x.who) (by rw [hcs]; rfl); simpa using this
    have rg : W0.rangeAt wr.heap.size 1 x.sig.toList := by
     rw [show cs.toList = [.int .i64 x.who] ++ (x.sig.toList ++ []) by rw [hcs]; simp [Sg.cells]] at rS
     have := za3 rS
     rwa [Nat.zero_add] at this
    have bD := hDb.grown hG0 (by simp)
    have hJ0 := HJ.out _ _ _ none hJk hG0 (fun _ e => by cases e)
    have hlen : L[(L.take k).length]? = some x := by rw [List.length_take, Nat.min_eq_left (by omega), hxe]; exact List.getElem?_eq_getElem hlt'
    obtain ⟨fn, tmps, assign, body, hy, hRd⟩ := HY.out _ x W0 hJ0 hlen
    have HC := hQ_ (aQ hc4 (aQ hc1 (aQ r1 (aQ rg bD))))
    have HN := hQ_ (aQ hK (aQ hG0 (aQ hI (aQ hsz (aQ hlt (aQ htake (aQ hDb hn)))))))
    have HW := hQ_ hW0
    obtain ⟨who, hwho⟩ : ∃ who, who = x.who := ⟨_, rfl⟩
    have hcl : x.claim D = clC who D x.lf (.slice x.A1 x.n1 x.c1) (.slice x.A2 x.n2 x.c2) := by rw [hwho]; rfl
    have hsg : x.sig = sigV x.lf (.slice x.A1 x.n1 x.c1) (.slice x.A2 x.n2 x.c2) := rfl
    rw [<- hwho] at c0
    have HB := hQ_ (fun V => cl_build V who x.lf D HX.out.2.2.2.1 (.slice x.A1 x.n1 x.c1) (.slice x.A2 x.n2 x.c2))
    rw [<- hcl, <- hsg] at HB
    obtain ⟨cl, hce⟩ : ∃ cl, cl = x.claim D := ⟨_, rfl⟩
    obtain ⟨sg, hse⟩ : ∃ sg, sg = x.sig := ⟨_, rfl⟩
    rw [<- hce, <- hse] at HB
    rw [<- hce] at hy
    have HSE := hQ_ hse
    clear r1 rg bD hxe htake hcs hc4 hc1 hG0 bS rS hJ0 hlen hJk hc hne hbn hI hkI hkl hlt hlt' hK hsz hW0 hl hA hAn hn hLn hDb hwho hcl hsg hce hse
    gi_upto_region 5 with (first
     | (refine uc rfl 89 _ rfl b (off + I.toNat * 4) rfl cs.toList _ HC.out.2.2.1 Tryz.underlying89 rfl (by rw [Array.length_toList, HC.out.1]; exact info4s) ?_; rw [Array.toArray_toList])
     | (refine yx rfl 89 _ _ rfl wr.heap.size cs rfl rfl 89 _ (heap_alloc_new wr _) (by rw [HC.out.1]; exact info4s) (by rw [HC.out.1]; rfl) HC.out.2.1 ?_
        rw [<- HW.out])
     | (refine yo rfl 24 _ rfl db rfl 24 D (0, 0) _ HC.out.2.2.2.2 Tryz.underlying24 rfl (by rw [HX.out.2.2.2.1]; exact zas) ?_)
     | (refine uc rfl 87 _ rfl wr.heap.size 1 rfl x.sig.toList _ HC.out.2.2.2.1 Tryz.underlying87 rfl (by exact info3s) ?_; rw [Array.toArray_toList, <- HSE.out])
     | (refine wpListIn_build_run rfl _ _ rfl (.agg cl) (by simp [Act.eval]; exact HB.out W0) ?_))
    refine ⟨fun _ => by omega, ?_⟩
    refine hRd.mono ?_
    rintro e3 W3 (⟨rfl, hJ3, hk3⟩ | ⟨rfl, hJx3⟩)
    · have H3' := hQ_ (aQ hJ3 hk3)
      clear hJ3 hk3
      gi_wp2
      go_roundw
      case rel =>
       obtain ⟨n1, n2, n3, n4, n5, n6, n7, n8⟩ := HN.out
       refine ⟨k + 1, by omega, by rw [n3]; rfl, by rw [n6]; exact H3'.out.1, Below.trans' (ua n2 (by omega) (fun _ e => by cases e)) n1 H3'.out.2.1, H3'.out.2.2 _ _ _ (n7.grown n2 (by simp)), Nat.le_trans n4 (Nat.le_trans n2.size H3'.out.2.1.size)⟩
      case measure => obtain ⟨n1, n2, n3, n4, n5, n6, n7, n8⟩ := HN.out; simp [intV]; omega
    · have H3' := hQ_ hJx3
      clear hJx3
      gi_wp2
      refine bodyPost_ret (results_none rfl _ _ _) rfl ?_
      exact ⟨⟨_, rfl⟩, .inr ⟨_, trivial, H3'.out⟩⟩
  · have d1 : decide (I < (n : Int)) = false := by simp; omega
    obtain rfl : k = n := by omega
    rw [<- hLn, List.take_length] at hJk
    have HJk := hQ_ hJk
    clear hlt hI hkl hJk hK hsz hl hA hAn hn hLn hDb
    gi_wp2
    go_end0
    exact ⟨⟨_, rfl⟩, .inl ⟨_, rfl, HJk.out⟩⟩
theorem votes_seq (m q n₀ : Nat) (e r : Int) (he : -9223372036854775808 <= e /\ e < 9223372036854775808) (hr : -9223372036854775808 <= r /\ r < 9223372036854775808) (Bl : List Int) (hBl : isDig Bl) (Bv : Array Value) (hBv : Bv = arrV .u8 Bl) (A2 : Option Addr) (c2 : Nat) (L : List Sg) (hl : L.length < 9223372036854775808) (D : Array Value) (hD : D = arrV .u8 (forV e r Bl))
    (hm : 2 <= m) (w : World) (hq : Blk w q 29 (qcC e r Bv (.slice A2 L.length c2))) (hn : n₀ <= w.heap.size) (hR : Rounds w) (hA : SgsAt w A2 L) (hAn : ∀ a, A2 = some a -> L ≠ [] -> a.block < n₀) :
    zfa Fence.wide m Tryz.prog 77 #[.pointer (some ⟨q, 0, none⟩)] (fun x : Sg => #[.agg (x.claim D)]) (fun _ => KpV n₀) (fun pre _ x _ => L[pre.length]? = some x) (fun ys => ys = L) (fun _ => True) w := fun l J Jx W hW hJ _ hY h0 => by
 have g := grown_below0 hW
 exact votes1_in m l q n₀ e r he hr Bl hBl Bv hBv A2 c2 L hl D hD J Jx hm W hJ hY (hq.grown g (by simp)) (Nat.le_trans hn g.size) (hR.grown g (by simp)) (hA.grown g) hAn h0
end
end Go.Proofs.YtigafnbofmiknaaGreatDoor
