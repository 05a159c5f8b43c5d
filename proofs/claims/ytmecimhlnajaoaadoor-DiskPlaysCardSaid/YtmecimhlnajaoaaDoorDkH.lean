/-
  The document's disk: Read, Unsynced.
-/
import Derived.Test.YtmecimhlnajaoaaDoorDkG
namespace Go.Proofs.YtmecimhlnajaoaaDoor
open Go.RowKit Go.Maps

attribute [local go_sem] Oper.semAt_some
set_option maxRecDepth 100000 in
set_option maxHeartbeats 1000000 in
theorem md_read (w : World) (p s u v : Nat) (z : DkS) (h : MdIs w p s u v z) (i : Int) :
    Calls Tryd.prog 22 #[.pointer (some ⟨p, 0, none⟩), .int .i64 i] w fun e w' => e = .returned (.tuple #[secV (rV z i), .int .i64 (nE (rE z i))]) ∧ w.grownBy w' none := by
  obtain ⟨zs, hzs⟩ : ∃ zs : Array Value, (zeroR.map (Value.int .u8)).toArray = zs := ⟨_, rfl⟩
  have hz : ∀ w, Sem.run Tryd.prog (zeroValue 36) w = .ok (.agg zs) w := fun w => by rw [← hzs]; exact zero_sec w (by kernel_rfl)
  have hzz : zs.size = 64 := by rw [← hzs]; simp [zeroR]
  have hone : zs.all (·.oneCell') = true := by rw [← hzs]; kernel_rfl
  have hsec : secV zeroR = .agg zs := by rw [secV, hzs]
  obtain ⟨w0, hw0⟩ : ∃ w0, w.alloc (.cells zs 36) = w0 := ⟨_, rfl⟩
  have g0 : w.grownBy w0 none := by rw [← hw0]; exact World.grownBy_alloc _ _ none
  have b0 : Blk w0 w.heap.size 36 zs := by rw [← hw0]; exact Blk.new _ _ _
  have HS := Lib.hid (And.intro hzz (And.intro hsec (And.intro (h.grown g0) (And.intro g0 (And.intro b0 hone)))))
  have HH := Lib.hid (md_has w0 p s u v z (h.grown g0) i)
  clear hzs hsec hone h g0 b0 hzz
  refine (callsIn_wide (n := 6)).1 ?_
  refine callsIn_of_wp Tryd.func22 rfl trivial ?_ rfl
  simp only [Tryd.ntmps22, List.size_toArray, List.length_cons, List.length_nil, Nat.reduceAdd, Nat.reduceSub, Array.replicate_succ, Array.replicate_zero, List.push_toArray, List.append_toArray, List.nil_append, List.cons_append]
  gi_wp2
  (try rw [hw0])
  refine ⟨trivial, ?_⟩
  refine (callsIn_wide.2 HH.out).mono ?_
  rintro e w1 ⟨rfl, hw1⟩
  obtain rfl : w0 = w1 := hw1.symm
  cases hi : inR z i with
  | false =>
    have HE := Lib.hid (And.intro (show rE z i = 1 by simp [rE, hi]) (show rV z i = zeroR by simp [rV, hi]))
    clear hi
    gi_wp2_with (first
      | (refine wpListIn_store_row rfl 36 _ _ rfl w.heap.size zs rfl rfl 36 zs HS.out.2.2.2.2.1 (by rw [HS.out.1]; kernel_rfl) rfl HS.out.2.2.2.2.2 ?_; rw [setRow_self _ _ _ _ _ HS.out.2.2.2.2.1])
      | gi_in)
    exact ⟨rfl, _, results_sec_tmp rfl _ _ ⟨w.heap.size, 0, none⟩ (.agg zs) rfl (run_loadVar_row w0 w.heap.size 36 36 zs (0, 0) _ HS.out.2.2.2.2.1 Tryd.underlying36 rfl (by rw [HS.out.1]; kernel_rfl)), by rw [HE.out.1, HE.out.2, HS.out.2.1]; rfl, HS.out.2.2.2.1⟩
  | true =>
    obtain ⟨k, rfl, hk⟩ : ∃ k : Nat, i = (k : Int) ∧ k < z.syn.length := by
      have hi2 : 0 ≤ i ∧ i < (z.syn.length : Int) := by simpa [inR] using hi
      exact ⟨i.toNat, by omega, by omega⟩
    obtain ⟨h1, h2, ⟨W, h3, hWl, hW64, hWw⟩, h5, h6, h7, _⟩ := HS.out.2.2.1
    have c3 := h1.cell 3
    have c2 := h1.cell 2
    have c1 := h1.cell 1
    have c0 := h1.cell 0
    simp only [List.getElem?_toArray, List.getElem?_cons_zero, List.getElem?_cons_succ] at c0 c1 c2 c3
    cases ho : z.off with
    | true =>
      have HE := Lib.hid (And.intro (show rE z (k : Int) = 2 by simp [rE, hi, ho]) (show rV z (k : Int) = zeroR by simp [rV, hi, ho]))
      rw [ho] at c3
      clear hi ho h1 h2 h3 hWl hW64 hWw h5 h6 h7 c0 c1 c2
      gi_wp2_with (first
        | (refine wpListIn_store_row rfl 36 _ _ rfl w.heap.size zs rfl rfl 36 zs HS.out.2.2.2.2.1 (by rw [HS.out.1]; kernel_rfl) rfl HS.out.2.2.2.2.2 ?_; rw [setRow_self _ _ _ _ _ HS.out.2.2.2.2.1])
        | gi_in)
      exact ⟨rfl, _, results_sec_tmp rfl _ _ ⟨w.heap.size, 0, none⟩ (.agg zs) rfl (run_loadVar_row w0 w.heap.size 36 36 zs (0, 0) _ HS.out.2.2.2.2.1 Tryd.underlying36 rfl (by rw [HS.out.1]; kernel_rfl)), by rw [HE.out.1, HE.out.2, HS.out.2.1]; rfl, HS.out.2.2.2.1⟩
    | false =>
      rw [ho] at c3
      have hkw : k < z.wr.length := by rw [h6]; exact hk
      have xv := h5.cell k
      rw [List.getElem?_toArray, dirtyC_at hkw] at xv
      have hrv : rV z (k : Int) = readS z k := by simp [rV, hi, ho]
      have hre : rE z (k : Int) = 0 := by simp [rE, hi, ho]
      have hkb : 0 ≤ (k : Int) ∧ (k : Int) < (z.syn.length : Int) := by omega
      obtain ⟨B, row, hrow, hBc', hBc, hrg⟩ : ∃ (B : Nat) (row : List Int), row.length = 64 ∧ readS z k = row ∧ (if z.wr[k].isSome then B = u else B = s) ∧ w0.rangeAt B (k * 64) (row.map (Value.int .u8)) := by
        cases hwk : z.wr[k] with
        | some r =>
          have hWk := hWw k r (by rw [List.getElem?_eq_getElem hkw, hwk])
          have hkW : k < W.length := by omega
          have hWe : W[k] = r := by rw [List.getElem?_eq_getElem hkW] at hWk; exact Option.some.inj hWk
          refine ⟨u, r, by rw [← hWe]; exact hW64 _ (List.getElem_mem hkW), ?_, by simp, fun j x hj => ?_⟩
          · rw [readS, List.getElem?_eq_getElem hkw, hwk]; rfl
          · rw [h3.cell, List.getElem?_toArray]
            exact flat64 W hW64 k hkW j x (by rw [hWe]; exact hj)
        | none =>
          refine ⟨s, z.syn[k], h7 _ (List.getElem_mem hk), ?_, by simp, fun j x hj => ?_⟩
          · rw [readS, List.getElem?_eq_getElem hkw, hwk]
            show z.syn.getD k [] = _
            rw [List.getD, List.getElem?_eq_getElem hk, Option.getD_some]
          · rw [h2.cell, List.getElem?_toArray]
            exact flat64 z.syn h7 k hk j x hj
      obtain ⟨csl, hcsl⟩ : ∃ csl, row.map (Value.int .u8) = csl := ⟨_, rfl⟩
      rw [hcsl] at hrg
      have hcl : csl.length = 64 := by rw [← hcsl]; simpa using hrow
      have hca : csl.toArray.all (·.oneCell') = true := by rw [← hcsl]; simp [Value.oneCell']
      have hrd : secV (rV z (k : Int)) = .agg csl.toArray := by rw [hrv, hBc', secV, hcsl]
      have HR := Lib.hid (And.intro hrd (And.intro hre (And.intro hcl (And.intro hca hrg))))
      obtain ⟨bo, hbo⟩ : ∃ bo, z.wr[k].isSome = bo := ⟨_, rfl⟩
      rw [hbo] at xv hBc
      clear hi ho h1 h2 h3 hWl hW64 hWw h5 h6 h7 hrv hre hrow hcsl hcl hca hrd hrg hkw hbo hk
      cases bo with
      | true =>
        obtain rfl : B = u := by simpa using hBc
        clear hBc c0
        gi_wp2_with (first
          | (refine wpListIn_load_mid rfl 36 _ rfl B _ rfl csl _ (by first | exact HR.out.2.2.2.2 | simpa using HR.out.2.2.2.2) Tryd.underlying36 rfl (by rw [HR.out.2.2.1]; kernel_rfl) ?_)
          | (refine wpListIn_store_row rfl 36 _ _ rfl w.heap.size csl.toArray rfl rfl 36 zs HS.out.2.2.2.2.1 (by rw [List.size_toArray, HR.out.2.2.1]; kernel_rfl) (by rw [HS.out.1, List.size_toArray, HR.out.2.2.1]) HR.out.2.2.2.1 ?_)
          | gi_in)
        exact ⟨rfl, _, results_sec_tmp rfl _ _ ⟨w.heap.size, 0, none⟩ (.agg csl.toArray) rfl (run_loadVar_row (w0.setRow w.heap.size csl.toArray) w.heap.size 36 36 csl.toArray (0, 0) _ (HS.out.2.2.2.2.1.row csl.toArray) Tryd.underlying36 rfl (by rw [List.size_toArray, HR.out.2.2.1]; kernel_rfl)), by rw [HR.out.1, HR.out.2.1]; rfl, grown_row HS.out.2.2.2.1 (.inl (Nat.le_refl _)) _⟩
      | false =>
        obtain rfl : B = s := by simpa using hBc
        clear hBc c1
        gi_wp2_with (first
          | (refine wpListIn_load_mid rfl 36 _ rfl B _ rfl csl _ (by first | exact HR.out.2.2.2.2 | simpa using HR.out.2.2.2.2) Tryd.underlying36 rfl (by rw [HR.out.2.2.1]; kernel_rfl) ?_)
          | (refine wpListIn_store_row rfl 36 _ _ rfl w.heap.size csl.toArray rfl rfl 36 zs HS.out.2.2.2.2.1 (by rw [List.size_toArray, HR.out.2.2.1]; kernel_rfl) (by rw [HS.out.1, List.size_toArray, HR.out.2.2.1]) HR.out.2.2.2.1 ?_)
          | gi_in)
        exact ⟨rfl, _, results_sec_tmp rfl _ _ ⟨w.heap.size, 0, none⟩ (.agg csl.toArray) rfl (run_loadVar_row (w0.setRow w.heap.size csl.toArray) w.heap.size 36 36 csl.toArray (0, 0) _ (HS.out.2.2.2.2.1.row csl.toArray) Tryd.underlying36 rfl (by rw [List.size_toArray, HR.out.2.2.1]; kernel_rfl)), by rw [HR.out.1, HR.out.2.1]; rfl, grown_row HS.out.2.2.2.1 (.inl (Nat.le_refl _)) _⟩
end Go.Proofs.YtmecimhlnajaoaaDoor
