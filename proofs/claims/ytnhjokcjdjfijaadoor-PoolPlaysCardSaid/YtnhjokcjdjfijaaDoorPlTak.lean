/-
  PoolTaken, walked.
-/
import Derived.Test.YtnhjokcjdjfijaaDoorPlFull
import Derived.Test.YtnhjokcjdjfijaaDoorArgL
namespace Go.Proofs.YtnhjokcjdjfijaaDoor
open Go.RowKit

/-! ### A row of rows joined to another -/
theorem ls_own {w : World} {base n c : Nat} {A : Option Addr} {zs : List (Value × List UInt8)} (h : w.ownsRow base 30 1 (.slice A n c) n (zs.map (·.1))) (hel : ∀ z ∈ zs, ∃ B cB, z.1 = .slice B z.2.length cB ∧ BytesAt w B z.2) : LsAt w A (zs.map (·.2)) := fun hne => by
  have hl : zs.length = n := by have := h.1; simpa using this
  have h0 : 0 < zs.length := by
    rcases zs with _ | ⟨z, zs⟩
    · simp at hne
    · simp
  obtain ⟨g, cap, hv⟩ := Joins.ownsRow_form h (by omega)
  have hA : A = some ⟨g, 0, none⟩ := by injection hv
  subst hA
  refine ⟨g, 0, rfl, fun j hj => ?_⟩
  have hj' : j < zs.length := by simpa using hj
  obtain ⟨B, cB, h1, h2⟩ := hel zs[j] (List.getElem_mem hj')
  refine ⟨B, cB, ?_, by simpa using h2⟩
  rw [Nat.zero_add]
  exact own_cell h (by simp [List.getElem?_eq_getElem hj', h1])
theorem run_append_rows {P : Program} (w : World) (base : Nat) (t ty e : TypeId) (i : TypeInfo) (z : Value) (bytes : Nat) (ht : P.underlying t = some (.slice e)) (hi : P.info? e = some i) (hz : i.zero = some z) (hsize : i.size = 1) (hby : i.bytes = bytes) (hb : bytes ≤ 100) (hzs : z.cells.size = 1)
    (v : Value) (n : Nat) (xs : List Value) (hown : w.ownsRow base e 1 v n xs) (base2 : Nat) (A2 : Option Addr) (n2 c2 : Nat) (ys : List Value) (hsrc : w.ownsRow base2 e 1 (.slice A2 n2 c2) n2 ys) (h1 : ∀ u ∈ ys, u.oneCell' = true) (h63 : n + n2 ≤ 1000000000) (hbase : base ≤ w.heap.size) :
    ∃ A' c' w', (Builtin.append_ #[t, t] ty #[v, .slice A2 n2 c2]).run P w = .ok (.slice A' (n + n2) c') w' ∧ w'.ownsRow base e 1 (.slice A' (n + n2) c') (n + n2) (xs ++ ys) ∧ w.grownBy w' v.ownBlock := by
  rcases hsrc.2 with ⟨hv, h0⟩ | ⟨g, cap, cur, hv, _⟩
  · injection hv with e1 e2 e3
    subst e1 e2 e3
    have hy : ys = [] := List.length_eq_zero_iff.1 (by have := hsrc.1; simpa using this)
    subst hy
    obtain ⟨A', c', rfl⟩ := own_slice w hown
    exact ⟨A', c', w, run_append_nilsrc w base t ty e i 1 ht hi _ n xs hown 0, by simpa using hown, World.grownBy.refl w _⟩
  · injection hv with e1 e2 e3
    subst e1 e3
    obtain ⟨v', w', hrun, h2, h3, _, _⟩ := run_append_own_at (P := P) w base t ty e i z 1 bytes ht hi hz hsize hby hzs (by omega) v n xs hown ⟨g, 0, none⟩ n2 c2 ys (by have := hsrc.1; simpa using this)
      (fun j u hu => by rw [Go.WideShapes.add_plain, Nat.zero_add]; exact own_cell hsrc hu) h1 (by unfold maxLen; omega) (Nat.le_trans (Nat.mul_le_mul h63 hb) (by omega)) hbase
    obtain ⟨A', cap', rfl⟩ := own_slice w' h2
    exact ⟨A', cap', w', hrun, h2, h3⟩
theorem wpList_append_rows {P : Program} (w : World) {ops : Array Oper} {rest : List Oper} {o : Oper} {a : Act} {Q : Exit → Act → World → Prop} (hw : Region.wanted o (yielded ops a.tmps) = true) (s x : Operand) (t : TypeId)
    (ho : o.op = .call { callee := .builtin .append, args := #[s, x], argTypes := #[t, t] }) (base : Nat) (e : TypeId) (i : TypeInfo) (z : Value) (bytes : Nat) (ht : P.underlying t = some (.slice e)) (hi : P.info? e = some i) (hz : i.zero = some z) (hsize : i.size = 1) (hby : i.bytes = bytes) (hb : bytes ≤ 100) (hzs : z.cells.size = 1)
    (v : Value) (n : Nat) (xs : List Value) (hs : a.eval s = v) (hown : w.ownsRow base e 1 v n xs) (base2 : Nat) (A2 : Option Addr) (n2 c2 : Nat) (ys : List Value) (hx : a.eval x = .slice A2 n2 c2) (hsrc : w.ownsRow base2 e 1 (.slice A2 n2 c2) n2 ys) (h1 : ∀ u ∈ ys, u.oneCell' = true) (h63 : n + n2 ≤ 1000000000) (hbase : base ≤ w.heap.size)
    (h : ∀ A' c' w', w'.ownsRow base e 1 (.slice A' (n + n2) c') (n + n2) (xs ++ ys) → w.grownBy w' v.ownBlock → wpList P ops Q rest (a.put o.dst (.slice A' (n + n2) c')) w') : wpList P ops Q (o :: rest) a w := by
  obtain ⟨A', c', w', hrun, h2, h3⟩ := run_append_rows (P := P) w base t o.type e i z bytes ht hi hz hsize hby hb hzs v n xs hown base2 A2 n2 c2 ys hsrc h1 h63 hbase
  refine BigFrame.wpList_want hw fun K hK => ?_
  unfold Oper.wp execOp
  simp only [ho, resolve, invoke, builtin, Sem.run_bind, Sem.run_pure, Result.andThen_ok, List.map_toArray, List.map_cons, List.map_nil, hs, hx, hrun]
  exact hK _ _ (h A' c' w' h2 h3)

theorem ls_of {w : World} {A : Option Addr} {xs : List (List UInt8)} (h : ListsAt w A xs) : LsAt w A xs := fun hne => by
  obtain ⟨ad, e, hc⟩ := h hne
  obtain ⟨b, off, rfl⟩ : ∃ b off, ad = ⟨b, off, none⟩ := by
    obtain ⟨B, c, h1, _⟩ := hc 0 (List.length_pos_iff.2 hne)
    exact addr_form h1 rfl
  refine ⟨b, off, e, fun j hj => ?_⟩
  obtain ⟨B, c, h1, _, h3⟩ := hc j hj
  rw [Go.WideShapes.add_plain] at h1
  exact ⟨B, c, h1, h3⟩
theorem isIn_mem (D : List (List UInt8)) (x : List UInt8) : isIn D x = decide (x ∈ D) := by
  rw [Bool.eq_iff_iff]
  simp [isIn]
/-- What may wait: few, short, none twice. -/
def Fine (L : List (List UInt8)) : Prop := L.length ≤ 16 ∧ (∀ y ∈ L, y.length ≤ 16) ∧ L.Nodup
theorem Fine.nil : Fine [] := ⟨by simp, (fun y h => by cases h), List.nodup_nil⟩
theorem Fine.add {L : List (List UInt8)} (h : Fine L) (x : List UInt8) : Fine (addL L x) := by
  refine ⟨addL_le h.1, addL_small h.2.1, ?_⟩
  rw [addL]
  split
  · rename_i h0
    have hx : isIn L x = false := by
      rw [addE] at h0
      repeat' split at h0
      all_goals first | omega | (rename_i hh _; simpa using hh)
    rw [isIn_mem, decide_eq_false_iff_not] at hx
    rw [List.nodup_append]
    exact ⟨h.2.2, List.nodup_cons.2 ⟨by simp, List.nodup_nil⟩, fun a ha b hb => by rw [List.mem_singleton.1 hb]; rintro rfl; exact hx ha⟩
  · exact h.2.2
theorem dropL_take {L : List (List UInt8)} (h : L.Nodup) (q : Nat) : dropL L (L.take q) = L.drop q := by
  have h1 : dropL L (L.take q) = dropL (L.take q) (L.take q) ++ dropL (L.drop q) (L.take q) := by
    rw [dropL, dropL, dropL, ← List.filter_append, List.take_append_drop]
  rw [h1]
  have h2 : dropL (L.take q) (L.take q) = [] := by
    rw [dropL, List.filter_eq_nil_iff]
    intro y hy
    rw [isIn_mem]; simp [hy]
  have h3 : dropL (L.drop q) (L.take q) = L.drop q := by
    rw [dropL, List.filter_eq_self]
    intro y hy
    rw [isIn_mem]
    have hd : ∀ a ∈ L.take q, ∀ b ∈ L.drop q, a ≠ b := by
      rw [← List.take_append_drop q L, List.nodup_append] at h
      exact h.2.2
    have : y ∉ L.take q := fun hy' => hd y hy' y hy rfl
    simp [this]
  rw [h2, h3, List.nil_append]
theorem dropL_none (L : List (List UInt8)) : dropL L [] = L := by rw [dropL, List.filter_eq_self]; intro y _; rfl

set_option maxRecDepth 100000 in
set_option maxHeartbeats 4000000 in
theorem taken_any (w : World) (E : Nat → Addr) (he : ErrVars [3, 7, 16] w w.heap.size E) (A : Option Addr) (n c : Nat) (ps : List (List UInt8)) (hn : ps.length = n) (hp : LsAt w A ps) (x : Int) : Calls Tryd.prog 6 #[.slice A n c, .int .i64 x] w fun e w' => e = .returned (.bool true) ∧ Below w.heap.size w w' := by
  obtain ⟨u1, q1, a1, a2, a3, a4, a5, a6, a7, a8, a9⟩ := u64_mod x 20 (by omega)
  obtain ⟨q, hq⟩ := Int.eq_ofNat_of_zero_le a8
  have HE := Lib.hid he
  have HA := Lib.hid (alive_any w w.heap.size E he (Nat.le_refl _))
  have HY := Lib.hid (And.intro hn hp.lsIn)
  have HQ := Lib.hid hq
  clear he hn hp hq
  go_enter Tryd.func6, Tryd.ntmps6
  go_wp2_with fail
  refine HA.out.mono ?_
  rintro e w1 ⟨rfl, k1⟩
  have K1 := Lib.hid (Kept.of_grown (F := fun k => w.heap.size ≤ k) k1 fun _ e => by cases e)
  clear k1
  by_cases h30 : 30 < n
  · have d1 : decide ((30 : Int) < (n : Int)) = true := by simp; omega
    go_wp2_with fail
    go_ret
    exact ⟨rfl, K1.out.below (Nat.le_refl _) (fun _ h => h)⟩
  have d0 : decide ((30 : Int) < (n : Int)) = false := by simp; omega
  have hn30 : n ≤ 30 := by omega
  clear h30
  go_wp2_with fail
  refine (pool_new _).mono ?_
  rintro e w2 ⟨rfl, rfl⟩
  obtain ⟨p, hp⟩ : ∃ p, w1.heap.size = p := ⟨_, rfl⟩
  obtain ⟨w2, hw2⟩ : ∃ w2, w1.alloc (.cells #[.slice none 0 0] 58) = w2 := ⟨_, rfl⟩
  have H2 : Hid (PB w2 w.heap.size (p + 1) p [] ∧ Kept (fun k => w.heap.size ≤ k) w w2) := Lib.hid (by
    rw [← hw2, ← hp]
    exact ⟨PB.new w1 K1.out.size, K1.out.next (Kept.of_grown (F := fun k => w.heap.size ≤ k) (World.grownBy_alloc w1 (.cells #[.slice none 0 0] 58) none) fun _ e => by cases e) (fun _ _ h => h)⟩)
  rw [hw2, hp]
  clear hw2 hp
  go_wp2_with fail
  go_loopw [18] (fun i wr => ∃ (k M : Nat) (L : List (List UInt8)), k ≤ n ∧ i = .int .i64 (k : Int) ∧ PB wr w.heap.size M p L ∧ Fine L ∧ Kept (fun k => w.heap.size ≤ k) w wr) (fun i _ => n - (intOf i).toNat)
  case atStart => exact ⟨0, _, [], by omega, rfl, H2.out.1, Fine.nil, H2.out.2⟩
  case round =>
    obtain ⟨k, M, L, hk, hi, hP, hF, hK⟩ := hrel
    obtain ⟨I, hI⟩ : ∃ I : Int, I = (k : Int) := ⟨_, rfl⟩
    rw [← hI] at hi
    subst hi
    by_cases hlt : k < n
    · have d1 : decide (I < (n : Int)) = true := by simp; omega
      have hkx : k < ps.length := by have := HY.out.1; omega
      have hlsK : LsIn wr (fun b => b < w.heap.size) A ps := HY.out.2.kept hK (fun k h1 h2 => by omega)
      obtain ⟨b, off, rfl, _, hc⟩ := hlsK (by rintro rfl; simp at hkx)
      obtain ⟨B, d, hcell, hB, _⟩ := hc k hkx
      have hkI : I.toNat = k := by omega
      generalize ps[k] = y at *
      rw [← hkI] at hcell
      have hI2 : 0 ≤ I ∧ I < (n : Int) := by omega
      have HN := Lib.hid (And.intro hI (And.intro hlt (And.intro hF hK)))
      by_cases h100 : 100 < y.length
      · have d2 : decide ((100 : Int) < (y.length : Int)) = true := by simp; omega
        clear hc hI hlt hkI hkx hP hF hK hk h100 hB hlsK
        go_wp2_with fail
        go_ret
        exact ⟨rfl, HN.out.2.2.2.below (Nat.le_refl _) (fun _ h => h)⟩
      · have d2 : decide ((100 : Int) < (y.length : Int)) = false := by simp; omega
        have HC := Lib.hid (hP.add (by have := hF.1; omega) w.heap.size E B d y hB (HE.out.kept hK (fun k h => h)) (Nat.le_refl _))
        clear hc hI hlt hkI hkx hP hF hK hk h100 hB hlsK
        go_wp2_with fail
        refine HC.out.mono ?_
        rintro e w3 ⟨rfl, h3, k3⟩
        have H3 := Lib.hid (And.intro h3 k3)
        clear h3 k3
        go_wp2_with fail
        go_roundw
        case rel =>
          obtain ⟨hI, hlt, hF, hK⟩ := HN.out
          exact ⟨k + 1, _, addL L y, by omega, by rw [hI]; rfl, H3.out.1, hF.add y, hK.next H3.out.2 (fun _ _ h => h)⟩
        case measure => obtain ⟨hI, hlt, hF, hK⟩ := HN.out; simp [intOf]; omega
    · have d1 : decide (I < (n : Int)) = false := by simp; omega
      have HP := Lib.hid (And.intro hP (And.intro hF (And.intro hK (show M ≤ wr.heap.size from hP.2))))
      clear hI hlt hP hK hk hF
      have hsm : ∀ y ∈ L, y.length ≤ 100000 := fun y hy => by have := HP.out.2.1.2.1 y hy; omega
      obtain ⟨La, hLa⟩ : ∃ La, La = L.take q := ⟨_, rfl⟩
      obtain ⟨Lb, hLb⟩ : ∃ Lb, Lb = L.drop q := ⟨_, rfl⟩
      obtain ⟨na, hna⟩ : ∃ na, na = La.length := ⟨_, rfl⟩
      obtain ⟨nb, hnb⟩ : ∃ nb, nb = Lb.length := ⟨_, rfl⟩
      obtain ⟨m, hm⟩ : ∃ m, m = L.length := ⟨_, rfl⟩
      have hta : takeL q1 [] L = La := by rw [takeL, dropL_none, HQ.out, Int.toNat_natCast, hLa]
      have htl : takeL 100 [] L = L := by rw [takeL, dropL_none, List.take_of_length_le]; have := HP.out.2.1.1; show L.length ≤ 100; omega
      have hdl : dropL L La = Lb := by rw [hLa, hLb]; exact dropL_take HP.out.2.1.2.2 q
      have htd : takeL 100 La L = Lb := by
        rw [takeL, hdl, List.take_of_length_le]
        rw [hLb, List.length_drop]; have := HP.out.2.1.1; show L.length - q ≤ 100; omega
      have htb : takeL 100 [] Lb = Lb := by
        rw [takeL, dropL_none, List.take_of_length_le]
        rw [hLb, List.length_drop]; have := HP.out.2.1.1; show L.length - q ≤ 100; omega
      have hab : La ++ Lb = L := by rw [hLa, hLb]; exact List.take_append_drop q L
      have hnm : na + nb = m := by rw [hna, hnb, hm, ← hab, List.length_append]
      have hm16 : m ≤ 16 := by rw [hm]; exact HP.out.2.1.1
      have hnaq : na = min q m := by rw [hna, hm, hLa, List.length_take]
      have hq1 : q1 = (q : Int) := HQ.out
      have hsb : ∀ y ∈ Lb, y.length ≤ 100000 := fun y hy => hsm y (by rw [← hab]; exact List.mem_append_right _ hy)
      have HT := Lib.hid (And.intro hta (And.intro htl (And.intro hdl (And.intro htd (And.intro htb (And.intro hab (And.intro hna (And.intro hnb (And.intro hm (And.intro hsm hsb))))))))))
      have HM := Lib.hid (And.intro hnm (And.intro hnaq hq1))
      have hC := pool_take wr _ (fun _ => False) p L HP.out.1.1 (by omega) hsm q1 none 0 0 [] rfl (by omega) (fun h => absurd rfl h) (fun _ h => h.elim)
      have HC := Lib.hid hC
      clear hC hta htl hdl htd htb hab hna hnb hm hsm hsb hnm hnaq hq1 hLa hLb
      go_wp2_with fail
      refine HC.out.mono ?_
      rintro e w5 ⟨Aa, ca, za, rfl, hra, hsa, k5⟩
      rw [HT.out.1, ← HT.out.2.2.2.2.2.2.1] at hra
      rw [HT.out.1] at hsa
      rw [HT.out.1, ← HT.out.2.2.2.2.2.2.1]
      have H5 := Lib.hid (And.intro hra (And.intro hsa k5))
      clear hra hsa k5
      have hLs := (H5.out.1.mono (T := fun b => wr.heap.size ≤ b ∧ b < w5.heap.size) (fun k h1 h2 => ⟨h2, h1⟩)).lsIn
      rw [H5.out.2.1] at hLs
      have hC6 := pool_take w5 _ (fun b => wr.heap.size ≤ b ∧ b < w5.heap.size) p L (HP.out.1.grown H5.out.2.2).1 (by have := HP.out.2.1.1; omega) HT.out.2.2.2.2.2.2.2.2.2.1 100 Aa na ca La HT.out.2.2.2.2.2.2.1.symm (by have := HM.out.1; omega) hLs (fun k h => h.2)
      have HC6 := Lib.hid (And.intro hC6 hLs)
      clear hLs hC6
      go_wp2_with fail
      refine HC6.out.1.mono ?_
      rintro e w6 ⟨Ab, cb, zb, rfl, hrb, hsb, k6⟩
      rw [HT.out.2.2.2.1, ← HT.out.2.2.2.2.2.2.2.1] at hrb
      rw [HT.out.2.2.2.1] at hsb
      rw [HT.out.2.2.2.1, ← HT.out.2.2.2.2.2.2.2.1]
      have H6 := Lib.hid (And.intro hrb (And.intro hsb (And.intro k6 ((HP.out.1.grown H5.out.2.2).grown k6))))
      clear hrb hsb k6
      go_wp2_with fail
      refine (pool_len w6 _ p L H6.out.2.2.2.1).mono ?_
      rintro e w7 ⟨rfl, rfl⟩
      rw [← HT.out.2.2.2.2.2.2.2.2.1]
      have hle : (q1 ≤ (m : Int) ∧ ((na : Int) != q1) = false) ∨ (¬ q1 ≤ (m : Int) ∧ ((na : Int) != (m : Int)) = false) := by
        obtain ⟨h1, h2, h3⟩ := HM.out
        by_cases h : q1 ≤ (m : Int)
        · exact .inl ⟨h, by rw [bne_eq_false_iff_eq]; omega⟩
        · exact .inr ⟨h, by rw [bne_eq_false_iff_eq]; omega⟩
      have dn2 : ((na : Int) + (nb : Int) != (m : Int)) = false := by
        have := HM.out.1
        rw [bne_eq_false_iff_eq]; omega
      have hqn : 0 ≤ q1 ∧ q1 < 20 := by omega
      have hnb : na ≤ 16 ∧ nb ≤ 16 ∧ m ≤ 16 := by have := HM.out.1; omega
      have el : ∀ (W : World) (S : Nat → Prop) (A : Option Addr) (n c : Nat) (zs : List (Value × List UInt8)), RowS W S A n c zs → ∀ u ∈ zs.map (·.1), u.oneCell' = true := fun W S A n c zs h u hu => by
        obtain ⟨z, hz, rfl⟩ := List.mem_map.1 hu
        obtain ⟨B, cB, e1, _⟩ := h.2.2 z hz
        rw [e1]; rfl
      have EL := Lib.hid el
      obtain ⟨i0, hi0, hz0, hz1, hz2⟩ := info_parts lst_info
      have HI := Lib.hid (And.intro hi0 (And.intro hz0 (And.intro hz1 hz2)))
      clear el hi0 hz0 hz1 hz2
      rcases hle with ⟨hle, dne⟩ | ⟨hle, dne⟩
      all_goals
        go_wp2_with fail
        refine (pool_len w7 _ p L H6.out.2.2.2.1).mono ?_
        rintro e w8 ⟨rfl, rfl⟩
        rw [← HT.out.2.2.2.2.2.2.2.2.1]
        have tok1 : True := trivial
        have g8 := World.grownBy_alloc w8 (.cells #[] 30) none
        have ra8 := ((H5.out.1.kept (Kept.of_grown (F := fun _ => False) H6.out.2.2.1 fun _ e => by cases e) (fun _ h => h.elim)).kept (Kept.of_grown (F := fun _ => False) g8 fun _ e => by cases e) (fun _ h => h.elim))
        have rb8 := (H6.out.1.kept (Kept.of_grown (F := fun _ => False) g8 fun _ e => by cases e) (fun _ h => h.elim))
        have HR8 := Lib.hid (And.intro ra8 (And.intro rb8 g8))
        clear ra8 rb8 g8
        go_wp2_with (at_builtin; first
          | (have _t := tok1; refine wpList_append_rows _ (by rfl) _ _ 31 rfl w8.heap.size 30 i0 (.slice none 0 0) 24 Tryd.underlying31 HI.out.1 HI.out.2.1 HI.out.2.2.1 HI.out.2.2.2 (by omega) rfl _ 0 [] rfl (World.ownsRow_made w8 #[] 0 (Nat.le_refl _) (Nat.zero_le _) rfl) 0 Aa na ca _ rfl HR8.out.1.1 (EL.out _ _ _ _ _ _ HR8.out.1) (by omega) (by rw [World.size_alloc]; omega) ?_; intro A9 c9 w9 hown9 hg9; rw [Nat.zero_add, List.nil_append] at hown9; have g9 : w8.grownBy w9 none := grown_new hg9; have rb9 := H6.out.1.kept (Kept.of_grown (F := fun _ => False) g9 fun _ e => by cases e) (fun _ h => h.elim); have hz9 := g9.size; have HO9 := Lib.hid (And.intro hown9 (And.intro g9 rb9)); clear tok1 hown9 hg9 g9 rb9)
          | (refine wpList_append_rows _ (by rfl) _ _ 31 rfl w8.heap.size 30 i0 (.slice none 0 0) 24 Tryd.underlying31 HI.out.1 HI.out.2.1 HI.out.2.2.1 HI.out.2.2.2 (by omega) rfl (.slice A9 na c9) na _ rfl HO9.out.1 0 Ab nb cb _ rfl HO9.out.2.2.1 (EL.out _ _ _ _ _ _ HO9.out.2.2) (by omega) (by omega) ?_; intro A10 c10 w10 hown10 hg10; have g10 := grown_own HO9.out.2.1 hg10 HO9.out.1 (Nat.le_refl _); have HO10 := Lib.hid (And.intro hown10 g10); clear hown10 hg10 g10))
        have hLn : L.length = na + nb := by rw [← HT.out.2.2.2.2.2.2.2.2.1]; exact HM.out.1.symm
        have hls10 : LsAt w10 A10 L := by
          have ra10 := (H5.out.1.kept (Kept.of_grown (F := fun _ => False) H6.out.2.2.1 fun _ e => by cases e) (fun _ h => h.elim)).kept (Kept.of_grown (F := fun _ => False) HO10.out.2 fun _ e => by cases e) (fun _ h => h.elim)
          have rb10 := H6.out.1.kept (Kept.of_grown (F := fun _ => False) HO10.out.2 fun _ e => by cases e) (fun _ h => h.elim)
          have h := ls_own (zs := za ++ zb) (by rw [List.map_append]; exact HO10.out.1) (fun z hz => by
            rcases List.mem_append.1 hz with hz | hz
            · obtain ⟨B, cB, e1, e2, _⟩ := ra10.2.2 z hz; exact ⟨B, cB, e1, e2⟩
            · obtain ⟨B, cB, e1, e2, _⟩ := rb10.2.2 z hz; exact ⟨B, cB, e1, e2⟩)
          rw [List.map_append, H5.out.2.1, H6.out.2.1, HT.out.2.2.2.2.2.1] at h
          exact h
        have hC11 := pool_take w10 _ (fun _ => False) p L (H6.out.2.2.2.grown HO10.out.2).1 (by omega) HT.out.2.2.2.2.2.2.2.2.2.1 100 none 0 0 [] rfl (by omega) (fun h => absurd rfl h) (fun _ h => h.elim)
        have HC11 := Lib.hid (And.intro hC11 (And.intro hls10 hLn))
        clear hls10 hC11 hLn
        refine HC11.out.1.mono ?_
        rintro e w11 ⟨At, ct, zt, rfl, hrt, hst, k11⟩
        rw [HT.out.2.1] at hst
        have hls11 := hrt.ls
        rw [hst] at hls11
        rw [HT.out.2.1, HC11.out.2.2]
        have H11 := Lib.hid (And.intro hls11 k11)
        clear hrt hst k11 hls11
        go_wp2_with fail
        refine (samelists_is w11 A10 At c10 ct (na + nb) L HC11.out.2.2 (by omega) (HC11.out.2.1.grown H11.out.2) H11.out.1).mono ?_
        rintro e w12 ⟨rfl, k12⟩
        have hg12 := grown_trans HO10.out.2 (grown_trans H11.out.2 k12)
        have hdrop : (L.length : Int) - ((dropL L La).length : Int) = (na : Int) := by
          rw [HT.out.2.2.1, ← HT.out.2.2.2.2.2.2.2.1, HC11.out.2.2]; omega
        have hDa : LsIn w12 (fun k => k < w.heap.size ∨ M ≤ k) Aa La := by
          have h := (H5.out.1.kept (Kept.of_grown (F := fun _ => False) (grown_trans H6.out.2.2.1 hg12) fun _ e => by cases e) (fun _ h => h.elim)).lsIn
          rw [H5.out.2.1] at h
          exact fun hne => by
            obtain ⟨b, off, e, hb, hc⟩ := h hne
            have hMw := HP.out.2.2.2
            exact ⟨b, off, e, .inr (Nat.le_trans hMw hb), fun j hj => by obtain ⟨B, c, q1, q2, q3⟩ := hc j hj; exact ⟨B, c, q1, q2, fun ad e hne => .inr (Nat.le_trans hMw (q3 ad e hne))⟩⟩
        have hC13 := (H6.out.2.2.2.grown hg12).drop (by rw [HC11.out.2.2]; omega) Aa na ca La HT.out.2.2.2.2.2.2.1.symm (by omega) hDa
        rw [hdrop, HT.out.2.2.1] at hC13
        have HC13 := Lib.hid (And.intro hC13 hg12)
        clear hC13 hg12 hdrop hDa k12
        go_wp2_with fail
        refine HC13.out.1.mono ?_
        rintro e w13 ⟨rfl, h13, k13⟩
        have H13 := Lib.hid (And.intro h13 k13)
        clear h13 k13
        go_wp2_with fail
        have hC14 := pool_take w13 _ (fun _ => False) p Lb H13.out.1.1 (by have := HT.out.2.2.2.2.2.2.2.1; omega) HT.out.2.2.2.2.2.2.2.2.2.2 100 none 0 0 [] rfl (by omega) (fun h => absurd rfl h) (fun _ h => h.elim)
        refine hC14.mono ?_
        rintro e w14 ⟨Au, cu, zu, rfl, hru, hsu, k14⟩
        rw [HT.out.2.2.2.2.1] at hsu
        have hls14 := hru.ls
        rw [hsu] at hls14
        rw [HT.out.2.2.2.2.1, ← HT.out.2.2.2.2.2.2.2.1]
        have hlsb : LsAt w14 Ab Lb := by
          have h := ((H6.out.1.kept (Kept.of_grown (F := fun _ => False) HC13.out.2 fun _ e => by cases e) (fun _ h => h.elim)).kept H13.out.2 (fun k h1 h2 => by
            have := HP.out.2.2.2
            have := H5.out.2.2.size
            have h2 : w5.heap.size ≤ k := h2
            omega)).kept (Kept.of_grown (F := fun _ => False) k14 fun _ e => by cases e) (fun _ h => h.elim)
          have h := h.ls
          rw [H6.out.2.1] at h
          exact h
        have hKall := (((HP.out.2.2.1.next (Kept.of_grown (F := fun k => w.heap.size ≤ k) (grown_trans H5.out.2.2 (grown_trans H6.out.2.2.1 HC13.out.2)) fun _ e => by cases e) (fun _ _ h => h)).next H13.out.2 (fun _ _ h => h.1)).next (Kept.of_grown (F := fun k => w.heap.size ≤ k) k14 fun _ e => by cases e) (fun _ _ h => h))
        have H14 := Lib.hid (And.intro hls14 (And.intro hlsb hKall))
        clear hru hsu k14 hls14 hlsb hKall hC14
        go_wp2_with fail
        refine (samelists_is w14 Au Ab cu cb nb Lb HT.out.2.2.2.2.2.2.2.1.symm (by omega) H14.out.1 H14.out.2.1).mono ?_
        rintro e w15 ⟨rfl, k15⟩
        have H15 := Lib.hid (H14.out.2.2.next (Kept.of_grown (F := fun k => w.heap.size ≤ k) k15 fun _ e => by cases e) (fun _ _ h => h))
        clear k15
        go_wp2_with fail
        go_ret
        exact ⟨rfl, H15.out.below (Nat.le_refl _) (fun _ h => h)⟩
end Go.Proofs.YtnhjokcjdjfijaaDoor
