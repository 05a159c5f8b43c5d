/-
  The document's own Parse.
-/
import Derived.Test.YtonkdcbmmdhjgaaDoorScQb
import Derived.Test.YtonkdcbmmdhjgaaDoorScQp
import Derived.Test.YtonkdcbmmdhjgaaDoorScX
namespace Go.Proofs.YtonkdcbmmdhjgaaDoor
open Go.RowKit Go.Shelf

attribute [local go_sem] Oper.semAt_some

theorem part_is (w : World) (g base : Nat) (o : OpM) (hb : Blk w g 56 o.val) (ho : o.Own w base) (hbase : base ≤ w.heap.size) (hg : g < w.heap.size) (c : UInt8) (hc : c = 105 ∨ c = 110 ∨ c = 120 ∨ c = 112 ∨ c = 98) (hf : Fresh o c) (C : Int) (hC : C = ((letR c).toNat : Int)) (s : ByteArray) (l : List UInt8) (hl : s.data.toList = l) (hs : s.size ≤ 100000) :
    Calls Tryd.prog 19 #[.pointer (some ⟨g, 0, none⟩), .int .u8 C, .string s] w (PartPost w g base c l o) := by
  rcases hc with rfl | rfl | rfl | rfl | rfl
  · obtain rfl : C = 105 := hC
    exact partI_is w g base o hb ho s l hl
  · obtain rfl : C = 110 := hC
    exact partN_is w g base o hb ho s l hl
  · obtain rfl : C = 104 := hC
    by_cases hd : s = ⟨#[45]⟩
    · subst hd; obtain rfl : l = [45] := hl.symm
      exact partH_dash w g base o hb ho (.inl ⟨rfl, (hf.1 rfl).2.2⟩)
    by_cases he : s = ⟨#[]⟩
    · subst he; obtain rfl : l = [] := hl.symm
      exact partH_none w g base o (.inl ⟨rfl, (hf.1 rfl).2.2⟩)
    exact partH_is w g base o hb ho hbase hg (hf.1 rfl) s l hl hs hd he
  · obtain rfl : C = 112 := hC
    by_cases hd : s = ⟨#[45]⟩
    · subst hd; obtain rfl : l = [45] := hl.symm
      exact partP_dash w g base o hb ho (.inr (.inl ⟨rfl, (hf.2.1 rfl).2.2⟩))
    by_cases he : s = ⟨#[]⟩
    · subst he; obtain rfl : l = [] := hl.symm
      exact partP_none w g base o (.inr (.inl ⟨rfl, (hf.2.1 rfl).2.2⟩))
    exact partP_is w g base o hb ho hbase (hf.2.1 rfl) s l hl hs hd he
  · obtain rfl : C = 98 := hC
    by_cases hd : s = ⟨#[45]⟩
    · subst hd; obtain rfl : l = [45] := hl.symm
      exact partB_dash w g base o hb ho (.inr (.inr ⟨rfl, (hf.2.2 rfl).2.2⟩))
    by_cases he : s = ⟨#[]⟩
    · subst he; obtain rfl : l = [] := hl.symm
      exact partB_none w g base o (.inr (.inr ⟨rfl, (hf.2.2 rfl).2.2⟩))
    exact partB_is w g base o hb ho hbase (hf.2.2 rfl) s l hl hs hd he
def allP : List (List UInt8) → Option (List OpV)
  | [] => some []
  | p :: r => (parseL p).bind fun o => (allP r).map fun os => o :: os
theorem parseLs_all (q : List UInt8) : ∀ ps : List (List UInt8), parseLs (ps ++ [q]) = if q = [] then allP ps else none
  | [] => rfl
  | p :: ps => by
    have ih := parseLs_all q ps
    cases h : ps ++ [q] with
    | nil => simp at h
    | cons x r =>
      rw [h] at ih
      rw [List.cons_append, h, parseLs, ih, allP]
      split
      · rfl
      · cases parseL p <;> rfl
theorem allP_app : ∀ (a : List (List UInt8)) (os : List OpV) (b : List (List UInt8)), allP a = some os → allP (a ++ b) = (allP b).map fun x => os ++ x
  | [], os, b, h => by simp [allP] at h; subst h; simp
  | x :: r, os, b, h => by
    rw [allP] at h
    obtain ⟨o, h1, h2⟩ := Option.bind_eq_some_iff.1 h
    obtain ⟨os', h3, rfl⟩ := Option.map_eq_some_iff.1 h2
    rw [List.cons_append, allP, h1, allP_app r os' b h3]
    cases allP b <;> simp
theorem shape_letters (k : Int) : (∀ c ∈ (shapeS k).2, c = 105 ∨ c = 110 ∨ c = 120 ∨ c = 112 ∨ c = 98) ∧ (shapeS k).2.Nodup := by
  rcases shape_cases k with (rfl | rfl | rfl | rfl | rfl | rfl | rfl | rfl | rfl | rfl) | ⟨_, h2⟩
  iterate 10 · exact ⟨by decide, by decide⟩
  · rw [h2]; exact ⟨by decide, by decide⟩
theorem kind_zero {w : List UInt8} (h : ¬ kindS w = 0) : (shapeS (kindS w)).2 ≠ [] := by
  obtain ⟨h1, h2⟩ := kindS_back h
  have := shape_pos (k := kindS w) (by rw [h1]; exact h2)
  intro e; rw [e] at this; simp at this
def kindM (K : Int) : OpM := ⟨{ OpV.zero with kind := K }, none, 0, none, 0, none, 0⟩
/-- append of an op, as an equation of the run. -/
theorem push6R_run (w0 : World) (i : TypeInfo) (z : Value) (hi : Tryd.prog.info? 56 = some i) (hz : i.zero = some z) (hsize : i.size = 6) (hby : i.bytes = 96) (hzs : z.cells.size = 6)
    (base : Nat) (v : Value) (n : Nat) (xs : List Value) (hown : w0.ownsRow base 56 6 v n xs) (o : OpM) (hn : n ≤ 1000000) (hbase : base ≤ w0.heap.size) :
    ∃ v' w', (Builtin.append_ #[28, 28] 28 #[v, .slice (some ⟨w0.heap.size, 0, none⟩) 1 1]).run Tryd.prog (w0.alloc (.cells o.val 56)) = .ok v' w' ∧ w'.ownsRow base 56 6 v' (n + 1) (xs ++ o.val.toList) ∧ w0.grownBy w' v.ownBlock := by
  obtain ⟨v', w', hrun, r1, r2, _⟩ := run_append_own (P := Tryd.prog) (w := w0.alloc (.cells o.val 56)) base 28 28 56 i z 6 96 Tryd.underlying28 hi hz hsize hby hzs (by omega) v n xs (hown.alloc _) ⟨w0.heap.size, 0, none⟩ 1 1 o.val.toList rfl (fun j u hu => by
    have h := (Blk.new w0 56 o.val).cell j
    rw [Go.WideShapes.add_plain, Nat.zero_add, h]
    simpa using hu) (opm_one o) (by simp only [maxLen]; omega) (by omega) (by rw [World.size_alloc]; omega)
  exact ⟨v', w', hrun, r1, grown_trans (World.grownBy_alloc w0 _ _) r2⟩
theorem opR_info : (Tryd.prog.info? 56).map (fun i => (i.zero, i.size, i.bytes)) = some (some (.agg #[.int .i64 0, .int .i64 0, .int .i64 0, .slice none 0 0, .slice none 0 0, .slice none 0 0]), 6, 96) := by kernel_rfl
/-- What the document's Parse leaves. -/
def RParsePost (w : World) (l : List UInt8) (e : Ending) (w' : World) : Prop := w.grownBy w' none ∧ match parseLs (splitP 10 l) with
  | none => e = .returned (.tuple #[.slice none 0 0, .int .i64 4])
  | some vs => ∃ os : List OpM, os.map (·.v) = vs ∧ ∃ A c, e = .returned (.tuple #[.slice A os.length c, .int .i64 0]) ∧ w'.ownsRow w.heap.size 56 6 (.slice A os.length c) os.length (opsC os) ∧ ∀ o ∈ os, o.Own w' w.heap.size
set_option maxRecDepth 100000 in
set_option maxHeartbeats 4000000 in
theorem rparse_is (s : ByteArray) (l : List UInt8) (hl : s.data.toList = l) (hs : s.size ≤ 65535) (w : World) : Calls Tryd.prog 9 #[.string s] w (RParsePost w l) := by
  obtain ⟨Q, hQ⟩ : ∃ Q, Q = RParsePost w l := ⟨_, rfl⟩
  rw [← hQ]
  obtain ⟨i0, hi0, hz0, hz1, hz2⟩ := info_parts opR_info
  have HI0 := Lib.hid (And.intro hi0 (And.intro hz0 (And.intro hz1 hz2)))
  have hln : l.length = s.size := by rw [← hl]; exact Array.length_toList
  have HSP := rsplit_is s 10 10 rfl l hl (by omega) w
  have hlp := pieces_lenP 10 l
  have hpl : ∀ p ∈ splitP 10 l, p.length ≤ 65535 := fun p hp => by have := piece_len hp; omega
  obtain ⟨ps, q, hps⟩ : ∃ ps q, splitP 10 l = ps ++ [q] := ⟨(splitP 10 l).dropLast, (splitP 10 l).getLast (splitP_ne 10 l), (List.dropLast_concat_getLast _).symm⟩
  have hr : parseLs (splitP 10 l) = if q = [] then allP ps else none := by rw [hps]; exact parseLs_all q ps
  rw [hps] at HSP hlp hpl
  obtain ⟨n, hn⟩ : ∃ n, n = ps.length := ⟨_, rfl⟩
  rw [show (ps ++ [q]).length = n + 1 by rw [List.length_append, hn]; rfl] at HSP hlp
  have HSP := Lib.hid HSP
  have hnb : n ≤ 65535 := by omega
  have dl : decide ((65535 : Int) < (s.size : Int)) = false := by simp; omega
  have HX := Lib.hid (And.intro hQ (And.intro hn (And.intro hr hpl)))
  clear hQ hi0 hz0 hz1 hz2 hl hln hr hpl hlp hps hn
  go_enter Tryd.func9, Tryd.ntmps9
  go_wp2_with fail
  refine HSP.out.mono ?_
  rintro e w1 ⟨A, cap, rfl, hown, k1⟩
  have hpl2 : (ps ++ [q]).length = n + 1 := by rw [List.length_append, HX.out.2.1]; rfl
  have hcap := words_cap hown
  obtain ⟨b, rfl, hcs⟩ := words_cell hpl2 (by omega) hown
  have cq : w1.cell? ⟨b, n, none⟩ = some (.string (strB q)) := hcs n q (by rw [HX.out.2.1, List.getElem?_append_right (Nat.le_refl _), Nat.sub_self]; rfl)
  have HW := Lib.hid (And.intro (show ∀ (k : Nat) (x : List UInt8), ps[k]? = some x → w1.cell? ⟨b, k, none⟩ = some (.string (strB x)) from fun k x hx => hcs k x (by rw [List.getElem?_append_left (List.getElem?_eq_some_iff.1 hx).1]; exact hx)) k1)
  clear hcs hown k1 hpl2
  by_cases hq : q = []
  · subst hq
    have cq' : w1.cell? ⟨b, n, none⟩ = some (.string ⟨#[]⟩) := cq
    clear cq
    go_wp2_with fail
    have HR := Lib.hid (show parseLs (splitP 10 l) = allP ps by rw [HX.out.2.2.1]; simp)
    go_loopw [5, 32] (fun v i wr => ∃ (k : Nat) (os : List OpM), k ≤ n ∧ i = .int .i64 (k : Int) ∧ Hid (os.length = k ∧ allP (ps.take k) = some (os.map (·.v)) ∧ wr.ownsRow w1.heap.size 56 6 v k (opsC os) ∧ (∀ o ∈ os, o.Own wr w.heap.size) ∧ w1.grownBy wr none)) (fun _ i _ => n - (intOf i).toNat)
    case atStart => exact ⟨0, [], Nat.zero_le _, rfl, Lib.hid ⟨rfl, rfl, ⟨rfl, .inr ⟨_, 0, _, rfl, Nat.le_refl _, Blk.new w1 56 #[], Nat.le_refl _, by decide, rfl, rfl⟩⟩, by simp, World.grownBy_alloc _ _ none⟩⟩
    case round =>
      obtain ⟨k, os, hk, rfl, HI⟩ := hrel
      rename World => wr
      by_cases hlt : k < n
      · have d1 : decide ((k : Int) < (n : Int)) = true := by simp; omega
        have hkl : k < ps.length := by rw [← HX.out.2.1]; exact hlt
        obtain ⟨p, hp⟩ : ∃ p, ps[k]? = some p := ⟨_, List.getElem?_eq_getElem hkl⟩
        have hpm : p ∈ ps := List.mem_of_getElem? hp
        have hpl : p.length ≤ 65535 := HX.out.2.2.2 p (List.mem_append_left _ hpm)
        obtain ⟨P, hP⟩ : ∃ P, P = strB p := ⟨_, rfl⟩
        have cp : wr.cell? ⟨b, k, none⟩ = some (.string P) := by rw [hP]; exact HI.out.2.2.2.2.cell (HW.out.1 k p hp) (by simp)
        have HS2 := rsplit_is P 32 32 rfl p (by rw [hP, strB_list]) (by rw [hP, strB_size]; omega) wr
        obtain ⟨wd, ts, hws⟩ : ∃ wd ts, splitP 32 p = wd :: ts := by
          cases h : splitP 32 p with
          | nil => exact absurd h (splitP_ne 32 p)
          | cons a r => exact ⟨a, r, rfl⟩
        rw [hws] at HS2
        have hwl : ∀ x ∈ wd :: ts, x.length ≤ 65535 := fun x hx => by rw [← hws] at hx; have := piece_len hx; omega
        have hnw9 : (wd :: ts).length ≤ 65536 := by rw [← hws]; have := pieces_lenP 32 p; omega
        obtain ⟨m, hm⟩ : ∃ m, m = ts.length := ⟨_, rfl⟩
        rw [show (wd :: ts).length = m + 1 by rw [List.length_cons, hm]] at HS2 hnw9
        have HS2 := Lib.hid HS2
        have htk : ps.take (k + 1) = ps.take k ++ [p] := by rw [List.take_add_one, hp]; rfl
        have hsp : ps = ps.take k ++ p :: ps.drop (k + 1) := by
          obtain ⟨_, ex⟩ := List.getElem?_eq_some_iff.1 hp
          conv => lhs; rw [← List.take_append_drop k ps]
          rw [List.drop_eq_getElem_cons hkl, ex]
        have HP := Lib.hid (And.intro (parseL_words hws) (And.intro hm (And.intro hwl (And.intro htk hsp))))
        have bad : ∀ h : parseL p = none, parseLs (splitP 10 l) = none := fun h => by
          rw [HR.out, HP.out.2.2.2.2, allP_app _ _ _ HI.out.2.1, allP, h]; rfl
        have BAD := Lib.hid bad
        clear hp hpm hpl hP hws hwl hm htk hsp hkl bad
        go_wp2_with fail
        refine HS2.out.mono ?_
        rintro e w2 ⟨A2, cap2, rfl, hown2, k2⟩
        have hcap2 := words_cap hown2
        obtain ⟨bw, rfl, hcw⟩ := words_cell (by rw [List.length_cons, HP.out.2.1]) (by omega) hown2
        obtain ⟨WD, hWD⟩ : ∃ WD, WD = strB wd := ⟨_, rfl⟩
        have cw : w2.cell? ⟨bw, 0, none⟩ = some (.string WD) := by rw [hWD]; exact hcw 0 wd rfl
        obtain ⟨K, hK⟩ : ∃ K, K = kindS wd := ⟨_, rfl⟩
        obtain ⟨PS, hPS⟩ : ∃ PS, PS = strB (partsR K) := ⟨_, rfl⟩
        have HKD := Lib.hid (show Calls Tryd.prog 18 #[.string WD] w2 fun e w' => e = .returned (.tuple #[.int .i64 K, .string PS]) ∧ w' = w2 by
          have h := rkind_is WD w2
          rw [hWD, strB_list, ← hK, ← hPS, ← hWD] at h
          exact h)
        have hpz : PS.size = (shapeS K).2.length := by rw [hPS, strB_size, partsR, List.length_map]
        have hp3 : PS.size ≤ 3 := by rw [hpz]; exact shape_le K
        have H2 := Lib.hid (And.intro (show ∀ (j : Nat) (x : List UInt8), ts[j]? = some x → w2.cell? ⟨bw, j + 1, none⟩ = some (.string (strB x)) from fun j x hx => hcw (j + 1) x hx) (And.intro k2 (And.intro hK (And.intro hPS hpz))))
        clear hcw hown2 k2 hK hPS hpz hWD
        go_wp2_with fail
        refine HKD.out.mono ?_
        rintro e w3 ⟨rfl, h3⟩
        obtain rfl : w2 = w3 := h3.symm
        have HG2 := Lib.hid (grown_trans HW.out.2 (grown_trans HI.out.2.2.2.2 H2.out.2.1))
        by_cases hK0 : K = 0
        · have e1 : (K == 0) = true := by simpa using hK0
          have HN := Lib.hid (BAD.out (by rw [HP.out.1, if_pos (by rw [← H2.out.2.2.1]; exact hK0)]))
          clear hK0
          go_wp2_with fail
          rw [HX.out.1]
          exact ⟨HG2.out, by rw [HN.out]; rfl⟩
        have e1 : (K == 0) = false := by simpa using hK0
        by_cases hmn : m = PS.size
        · have e2 : ((m : Int) + 1 != (PS.size : Int) + 1) = false := by simp; omega
          have HMN := Lib.hid (And.intro hmn hK0)
          clear hmn hK0
          go_wp2_with fail
          obtain ⟨cs, hcs⟩ : ∃ cs, cs = (shapeS K).2 := ⟨_, rfl⟩
          obtain ⟨W0, hW0⟩ : ∃ W0, w2.alloc (.cells #[.int .i64 K, .int .i64 0, .int .i64 0, .slice none 0 0, .slice none 0 0, .slice none 0 0] 56) = W0 := ⟨_, rfl⟩
          have HC := Lib.hid (show (∀ c ∈ cs, c = 105 ∨ c = 110 ∨ c = 120 ∨ c = 112 ∨ c = 98) ∧ cs.Nodup ∧ cs.length = m ∧ PS.data.toList = cs.map letR ∧ parseL p = readAll cs ts { OpV.zero with kind := K } ∧ Blk W0 w2.heap.size 56 (kindM K).val ∧ w2.grownBy W0 none from
            ⟨by rw [hcs]; exact (shape_letters K).1, by rw [hcs]; exact (shape_letters K).2, by rw [hcs, ← H2.out.2.2.2.2]; exact HMN.out.1.symm, by rw [H2.out.2.2.2.1, strB_list, hcs]; rfl,
             by rw [HP.out.1, if_neg (by rw [← H2.out.2.2.1]; exact HMN.out.2), ← H2.out.2.2.1, hcs], by rw [← hW0]; exact Blk.new w2 _ _, by rw [← hW0]; exact World.grownBy_alloc w2 _ none⟩)
          rw [hW0]
          clear hcs hW0
          go_loopw [12] (fun i wi => ∃ (j : Nat) (o : OpM), j ≤ m ∧ i = .int .i64 (j : Int) ∧ Hid (readAll (cs.take j) (ts.take j) { OpV.zero with kind := K } = some o.v ∧ Blk wi w2.heap.size 56 o.val ∧ o.Own wi w.heap.size ∧ (∀ c ∈ cs.drop j, Fresh o c) ∧ w2.grownBy wi none)) (fun i _ => m - (intOf i).toNat)
          case atStart => exact ⟨0, kindM K, Nat.zero_le _, rfl, Lib.hid ⟨rfl, HC.out.2.2.2.2.2.1, ⟨World.ownsRow_nil _ _ _ _, World.ownsRow_nil _ _ _ _, World.ownsRow_nil _ _ _ _⟩, fun c _ => ⟨fun _ => ⟨rfl, rfl, rfl⟩, fun _ => ⟨rfl, rfl, rfl⟩, fun _ => ⟨rfl, rfl, rfl⟩⟩, HC.out.2.2.2.2.2.2⟩⟩
          case round =>
            obtain ⟨j, o, hj, rfl, HJ⟩ := hrel
            rename World => wi
            by_cases hjm : j < m
            · have e4 : decide ((j : Int) < (PS.size : Int)) = true := by have := HMN.out.1; simp; omega
              have e4n : j < PS.size := by have := HMN.out.1; omega
              have hjc : j < cs.length := by rw [HC.out.2.2.1]; exact hjm
              have hjt : j < ts.length := by rw [← HP.out.2.1]; exact hjm
              obtain ⟨c, hc⟩ : ∃ c, c = cs[j] := ⟨_, rfl⟩
              have hcq : cs[j]? = some c := by rw [hc]; exact List.getElem?_eq_getElem hjc
              obtain ⟨x, hx⟩ : ∃ x, ts[j]? = some x := ⟨_, List.getElem?_eq_getElem hjt⟩
              have hxl : x.length ≤ 65535 := HP.out.2.2.1 x (List.mem_cons_of_mem _ (List.mem_of_getElem? hx))
              obtain ⟨C, hC⟩ : ∃ C : Int, C = ((letR c).toNat : Int) := ⟨_, rfl⟩
              have hix : ∀ W, Sem.run Tryd.prog (Instr.index 9 (.string PS) (.int .i64 (j : Int))) W = .ok (.int .u8 C) W := fun W => by rw [hC]; exact str_at _ j (letR c) (by rw [HC.out.2.2.2.1, List.getElem?_map, hcq]; rfl) W
              obtain ⟨S, hS⟩ : ∃ S, S = strB x := ⟨_, rfl⟩
              have cw2 : w2.cell? ⟨bw, j + 1, none⟩ = some (.string S) := by rw [hS]; exact H2.out.1 j x hx
              have hbw : bw < w2.heap.size := World.block_lt_of_cell? _ _ cw2
              have c0 : wi.cell? ⟨bw, j + 1, none⟩ = some (.string S) := HJ.out.2.2.2.2.cell cw2 (by simp)
              have hdr : cs.drop j = c :: cs.drop (j + 1) := by rw [List.drop_eq_getElem_cons hjc, ← hc]
              have hct : cs = cs.take j ++ c :: cs.drop (j + 1) := by conv => lhs; rw [← List.take_append_drop j cs, hdr]
              have htt : ts = ts.take j ++ x :: ts.drop (j + 1) := by
                obtain ⟨_, ex⟩ := List.getElem?_eq_some_iff.1 hx
                conv => lhs; rw [← List.take_append_drop j ts]
                rw [List.drop_eq_getElem_cons hjt, ex]
              have hlen : (cs.take j).length = (ts.take j).length := by rw [List.length_take, List.length_take]; omega
              have CP := Lib.hid (part_is wi.drew w2.heap.size w.heap.size o (HJ.out.2.1.grown (grown_drew (World.grownBy.refl wi none)) (by simp)) (HJ.out.2.2.1.grown (grown_drew (World.grownBy.refl wi none))) (grown_trans HG2.out HJ.out.2.2.2.2).size (Blk.lt HJ.out.2.1) c (HC.out.1 c (List.mem_of_getElem? hcq)) (HJ.out.2.2.2.1 c (by rw [hdr]; simp)) C hC S x (by rw [hS, strB_list]) (by rw [hS, strB_size]; omega))
              have HH := Lib.hid (show cs.take (j + 1) = cs.take j ++ [c] ∧ ts.take (j + 1) = ts.take j ++ [x] ∧ cs = cs.take j ++ c :: cs.drop (j + 1) ∧ ts = ts.take j ++ x :: ts.drop (j + 1) ∧ (cs.take j).length = (ts.take j).length ∧ cs.drop j = c :: cs.drop (j + 1) ∧ c ∉ cs.drop (j + 1) ∧ bw ≠ w2.heap.size from
                ⟨by rw [List.take_add_one, hcq]; rfl, by rw [List.take_add_one, hx]; rfl, hct, htt, hlen, hdr, by
                  have := HC.out.2.1
                  rw [hct] at this
                  exact (List.nodup_cons.1 (List.nodup_append.1 this).2.1).1, by omega⟩)
              have e5 : j + 1 < m + 1 := by omega
              have e6 : IntKind.i64.wrap ((j : Int) + 1) = (j : Int) + 1 := by simp only [IntKind.wrap, IntKind.signed, IntKind.bits]; simp; omega
              have e7 : 0 ≤ (j : Int) + 1 ∧ (j : Int) + 1 < (m : Int) + 1 := by omega
              have e8 : ((j : Int) + 1).toNat = j + 1 := by omega
              clear hjc hjt hc hcq hx hxl hC hS cw2 hbw hdr hct htt hlen
              go_upto_region 18 with (fail)
              refine wp_region_held_drew (S := fun V => V.cell? ⟨bw, j + 1, none⟩ = some (.string S)) (by kernel_rfl) c0 (fun hHeld => ?_)
              refine wpAnyH_take (i := 0) (oi := _) (v := ?vp0) rfl (by kernel_rfl) (by kernel_rfl) (by kernel_rfl) (fun _ _ _ h => h) (Or.inl ⟨by rfl, ?hyp0⟩) (by assumption) ?restp0
              case hyp0 => (intro V hSw; (try dsimp only at hSw); go_simp) <;> with_reducible rfl
              try simp only [Act.put, List.getElem_toArray, List.getElem_cons_succ, List.getElem_cons_zero, List.setIfInBounds_toArray, List.set_cons_zero, List.set_cons_succ]
              refine wpAnyH_take (i := 1) (oi := _) (v := ?vp1) rfl (by kernel_rfl) (by kernel_rfl) (by kernel_rfl) (fun _ _ _ h => h) (Or.inl ⟨by rfl, ?hyp1⟩) (by assumption) ?restp1
              case hyp1 => (intro V hSw; (try dsimp only at hSw); go_simp) <;> with_reducible rfl
              try simp only [Act.put, List.getElem_toArray, List.getElem_cons_succ, List.getElem_cons_zero, List.setIfInBounds_toArray, List.set_cons_zero, List.set_cons_succ]
              refine wpAnyH_take (i := 2) (oi := _) (v := ?vp2) rfl (by kernel_rfl) (by kernel_rfl) (by kernel_rfl) (fun _ _ _ h => h) (Or.inl ⟨by rfl, ?hyp2⟩) (by assumption) ?restp2
              case hyp2 => (intro V hSw; (try dsimp only at hSw); go_simp) <;> with_reducible rfl
              try simp only [Act.put, List.getElem_toArray, List.getElem_cons_succ, List.getElem_cons_zero, List.setIfInBounds_toArray, List.set_cons_zero, List.set_cons_succ]
              refine wpAnyH_take (i := 3) (oi := _) (v := ?vp3) rfl (by kernel_rfl) (by kernel_rfl) (by kernel_rfl) (fun _ _ _ h => h) (Or.inl ⟨by rfl, ?hyp3⟩) (by assumption) ?restp3
              case hyp3 => (intro V hSw; (try dsimp only at hSw); go_simp) <;> with_reducible rfl
              try simp only [Act.put, List.getElem_toArray, List.getElem_cons_succ, List.getElem_cons_zero, List.setIfInBounds_toArray, List.set_cons_zero, List.set_cons_succ]
              refine wpAnyH_take (i := 4) (oi := _) (v := ?vp4) rfl (by kernel_rfl) (by kernel_rfl) (by kernel_rfl) (fun _ _ _ h => h) (Or.inl ⟨by rfl, ?hyp4⟩) (by assumption) ?restp4
              case hyp4 => (intro V hSw; (try dsimp only at hSw); go_simp) <;> with_reducible rfl
              try simp only [Act.put, List.getElem_toArray, List.getElem_cons_succ, List.getElem_cons_zero, List.setIfInBounds_toArray, List.set_cons_zero, List.set_cons_succ]
              refine wpAnyH_take (i := 5) (oi := _) (v := ?vp5) rfl (by kernel_rfl) (by kernel_rfl) (by kernel_rfl) (fun _ _ _ h => h) (Or.inl ⟨by rfl, ?hyp5⟩) (by assumption) ?restp5
              case hyp5 => (intro V hSw; (try dsimp only at hSw); go_simp) <;> with_reducible rfl
              try simp only [Act.put, List.getElem_toArray, List.getElem_cons_succ, List.getElem_cons_zero, List.setIfInBounds_toArray, List.set_cons_zero, List.set_cons_succ]
              refine wpAnyH_take (i := 6) (oi := _) (v := ?vp6) rfl (by kernel_rfl) (by kernel_rfl) (by kernel_rfl) (fun _ _ _ h => h) (Or.inl ⟨by rfl, ?hyp6⟩) (by assumption) ?restp6
              case hyp6 => (intro V hSw; (try dsimp only at hSw); go_simp) <;> with_reducible rfl
              try simp only [Act.put, List.getElem_toArray, List.getElem_cons_succ, List.getElem_cons_zero, List.setIfInBounds_toArray, List.set_cons_zero, List.set_cons_succ]
              refine wpAnyH_take (i := 7) (oi := _) (v := ?vp7) rfl (by kernel_rfl) (by kernel_rfl) (by kernel_rfl) (fun _ _ _ h => h) (Or.inl ⟨by rfl, ?hyp7⟩) (by assumption) ?restp7
              case hyp7 => (intro V hSw; (try dsimp only at hSw); go_simp) <;> with_reducible rfl
              try simp only [Act.put, List.getElem_toArray, List.getElem_cons_succ, List.getElem_cons_zero, List.setIfInBounds_toArray, List.set_cons_zero, List.set_cons_succ]
              refine wpAnyH_ready (rs := [8]) (by kernel_rfl) (by simp) ?_
              refine (AllReadyH.cons (o := _) rfl (fun K9 hK => ?_) AllReadyH.nil)
              go_simp
              refine CP.out.mono ?_
              rintro e w5 ⟨gp, hpost⟩
              have cS : w5.cell? ⟨bw, j + 1, none⟩ = some (.string S) := gp.cell (show wi.drew.cell? ⟨bw, j + 1, none⟩ = some (.string S) from c0) (by simp only [ne_eq, Option.some.injEq]; exact HH.out.2.2.2.2.2.2.2)
              have HGP := Lib.hid (And.intro gp (grown_fresh (grown_drew HJ.out.2.2.2.2) gp (Nat.le_refl _)))
              clear gp
              cases hrs : readS c x o.v with
              | none =>
                rw [hrs] at hpost
                have hpost : e = .returned (.bool false) := hpost
                subst hpost
                have HN := Lib.hid (BAD.out (by rw [HC.out.2.2.2.2.1, HH.out.2.2.1, HH.out.2.2.2.1, readAll_snoc _ _ _ _ _ _ _ HH.out.2.2.2.2.1, HJ.out.1]; simp only [Option.bind_some]; rw [hrs]; rfl))
                clear hrs
                refine hK.out _ _ cS (fun hHeld => ?_)
                clear hK K9
                try simp only [Act.put, List.getElem_toArray, List.getElem_cons_succ, List.getElem_cons_zero, List.setIfInBounds_toArray, List.set_cons_zero, List.set_cons_succ]
                refine wpAnyH_ready (rs := [9]) (by kernel_rfl) (by simp) ?_
                refine (AllReadyH.cons (o := _) rfl (fun K9 hK => ?_) AllReadyH.nil)
                go_simp
                refine hK.out _ _ hHeld (fun hHeld => ?_)
                clear hK K9
                try simp only [Act.put, List.getElem_toArray, List.getElem_cons_succ, List.getElem_cons_zero, List.setIfInBounds_toArray, List.set_cons_zero, List.set_cons_succ]
                refine wpAnyH_done (by kernel_rfl) ?_ _
                go_wp2_with fail
                rw [HX.out.1]
                exact ⟨grown_trans HG2.out HGP.out.2, by rw [HN.out]⟩
              | some v =>
                rw [hrs] at hpost
                obtain ⟨o', hv, rfl, hb', ho', hfr⟩ := hpost
                have HN := Lib.hid (And.intro hrs (And.intro hv (And.intro hb' (And.intro ho' hfr))))
                clear hrs hv hb' ho' hfr
                refine hK.out _ _ cS (fun hHeld => ?_)
                clear hK K9
                try simp only [Act.put, List.getElem_toArray, List.getElem_cons_succ, List.getElem_cons_zero, List.setIfInBounds_toArray, List.set_cons_zero, List.set_cons_succ]
                refine wpAnyH_ready (rs := [9]) (by kernel_rfl) (by simp) ?_
                refine (AllReadyH.cons (o := _) rfl (fun K9 hK => ?_) AllReadyH.nil)
                go_simp
                refine hK.out _ _ hHeld (fun hHeld => ?_)
                clear hK K9
                try simp only [Act.put, List.getElem_toArray, List.getElem_cons_succ, List.getElem_cons_zero, List.setIfInBounds_toArray, List.set_cons_zero, List.set_cons_succ]
                refine wpAnyH_done (by kernel_rfl) ?_ _
                go_wp2_with fail
                go_roundw
                case rel =>
                  obtain ⟨hrs, hv, hb', ho', hfr⟩ := HN.out
                  refine ⟨j + 1, o', by omega, rfl, Lib.hid ⟨?_, hb', ho', fun c' hc' => ?_, HGP.out.2⟩⟩
                  · rw [HH.out.1, HH.out.2.1, readAll_snoc _ _ _ _ _ _ _ HH.out.2.2.2.2.1, HJ.out.1]
                    simp only [Option.bind_some]
                    rw [hrs, hv]; rfl
                  · exact hfr c' (fun e => HH.out.2.2.2.2.2.2.1 (e ▸ hc')) (HJ.out.2.2.2.1 c' (by rw [HH.out.2.2.2.2.2.1]; exact List.mem_cons_of_mem _ hc'))
                case measure => simp [intOf]; omega
            · have e4 : decide ((j : Int) < (PS.size : Int)) = false := by have := HMN.out.1; simp; omega
              have e4n : ¬ j < PS.size := by have := HMN.out.1; omega
              obtain rfl : j = m := by omega
              have HN := Lib.hid (show parseL p = some o.v by
                have h := HJ.out.1
                rw [List.take_of_length_le (by rw [HC.out.2.2.1]; exact Nat.le_refl _), List.take_of_length_le (by rw [← HP.out.2.1]; exact Nat.le_refl _)] at h
                rw [HC.out.2.2.2.2.1]; exact h)
              have z0 : wi.cell? ⟨w2.heap.size, 0, none⟩ = some (.int .i64 o.v.kind) := HJ.out.2.1.cell 0
              have z1 : wi.cell? ⟨w2.heap.size, 1, none⟩ = some (.int .i64 o.v.node) := HJ.out.2.1.cell 1
              have z2 : wi.cell? ⟨w2.heap.size, 2, none⟩ = some (.int .i64 o.v.n) := HJ.out.2.1.cell 2
              have z3 : wi.cell? ⟨w2.heap.size, 3, none⟩ = some (.slice o.A1 o.v.set.length o.c1) := HJ.out.2.1.cell 3
              have z4 : wi.cell? ⟨w2.heap.size, 4, none⟩ = some (.slice o.A2 o.v.keep.length o.c2) := HJ.out.2.1.cell 4
              have z5 : wi.cell? ⟨w2.heap.size, 5, none⟩ = some (.slice o.A3 o.v.data.length o.c3) := HJ.out.2.1.cell 5
              have gwi := grown_trans H2.out.2.1 HJ.out.2.2.2.2
              have hown := own_gr HI.out.2.2.1 gwi
              have hgl := grown_trans HG2.out HJ.out.2.2.2.2
              have hrun : ∃ v' w', (Builtin.append_ #[28, 28] 28 #[u5, .slice (some ⟨wi.heap.size, 0, none⟩) 1 1]).run Tryd.prog (wi.alloc (.cells #[.int .i64 o.v.kind, .int .i64 o.v.node, .int .i64 o.v.n, .slice o.A1 o.v.set.length o.c1, .slice o.A2 o.v.keep.length o.c2, .slice o.A3 o.v.data.length o.c3] 56)) = .ok v' w' ∧ w'.ownsRow w1.heap.size 56 6 v' (k + 1) (opsC os ++ o.val.toList) ∧ wi.grownBy w' u5.ownBlock :=
                push6R_run wi i0 _ HI0.out.1 HI0.out.2.1 HI0.out.2.2.1 HI0.out.2.2.2 rfl w1.heap.size u5 k _ hown o (by omega) (grown_trans HI.out.2.2.2.2 gwi).size
              obtain ⟨v', w6, hrun, hown6, hgrow⟩ := hrun
              rw [← opsC_snoc] at hown6
              have HF := Lib.hid (show w6.ownsRow w1.heap.size 56 6 v' (k + 1) (opsC (os ++ [o])) ∧ (∀ y ∈ os ++ [o], y.Own w6 w.heap.size) ∧ w1.grownBy w6 none from by
                refine ⟨hown6, fun y hy => ?_, ?_⟩
                · have hyo : y.Own wi w.heap.size := by
                    rcases List.mem_append.1 hy with hy | hy
                    · exact (HI.out.2.2.2.1 y hy).grown gwi
                    · obtain rfl : y = o := by simpa using hy
                      exact HJ.out.2.2.1
                  exact ⟨own_other hyo.1 (by decide) hown hgrow, own_other hyo.2.1 (by decide) hown hgrow, own_other hyo.2.2 (by decide) hown hgrow⟩
                · have g1 := grown_trans HI.out.2.2.2.2 gwi
                  cases hob : u5.ownBlock with
                  | none => rw [hob] at hgrow; exact grown_trans g1 hgrow
                  | some gx => rw [hob] at hgrow; exact grown_fresh g1 hgrow (hown.lt gx hob).1)
              clear hown6 hgrow hown hgl gwi
              go_wp2_with (at_builtin
                           refine wpList_plain rfl fun K9 hK9 => wp_append rfl rfl rfl hrun (hK9 _ _ ?_))
              go_roundw
              case rel =>
                refine ⟨k + 1, os ++ [o], by omega, rfl, Lib.hid ⟨by rw [List.length_append, HI.out.1]; rfl, ?_, HF.out.1, HF.out.2.1, HF.out.2.2⟩⟩
                rw [HP.out.2.2.2.1, allP_app _ _ _ HI.out.2.1, allP, HN.out, List.map_append]; rfl
              case measure => simp [intOf]; omega
        · have e2 : ((m : Int) + 1 != (PS.size : Int) + 1) = true := by simp; omega
          have e3 : ¬ (m : Int) = (PS.size : Int) := by omega
          have HN := Lib.hid (BAD.out (by
            rw [HP.out.1, if_neg (by rw [← H2.out.2.2.1]; exact hK0), ← H2.out.2.2.1]
            cases h : readAll (shapeS K).2 ts { OpV.zero with kind := K } with
            | none => rfl
            | some v => exact absurd (readAll_len _ _ _ _ h) (by rw [← H2.out.2.2.2.2, ← HP.out.2.1]; omega)))
          clear hmn hK0
          go_wp2_with fail
          rw [HX.out.1]
          exact ⟨HG2.out, by rw [HN.out]; rfl⟩
      · have d1 : decide ((k : Int) < (n : Int)) = false := by simp; omega
        obtain rfl : k = n := by omega
        have HN := Lib.hid (show parseLs (splitP 10 l) = some (os.map (·.v)) by
          rw [HR.out]
          have := HI.out.2.1
          rwa [List.take_of_length_le (by rw [← HX.out.2.1]; exact Nat.le_refl _)] at this)
        obtain ⟨A, c, rfl⟩ := own_slice _ HI.out.2.2.1
        go_wp2_with fail
        rw [HX.out.1]
        refine ⟨grown_trans HW.out.2 HI.out.2.2.2.2, ?_⟩
        rw [HN.out]
        obtain ⟨h1, _, h3, h4, _⟩ := HI.out
        subst h1
        exact ⟨os, rfl, A, c, rfl, own_mono h3 HW.out.2.size, h4⟩
  · have dq := lit_neB (s := strB q) (a := []) (fun e => hq (by have := strB_list q; rw [e] at this; exact this.symm))
    have HN := Lib.hid (show parseLs (splitP 10 l) = none by rw [HX.out.2.2.1, if_neg hq])
    clear hq
    go_wp2_with fail
    rw [HX.out.1]
    exact ⟨HW.out.2, by rw [HN.out]; rfl⟩
end Go.Proofs.YtonkdcbmmdhjgaaDoor
