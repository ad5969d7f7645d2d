/- LedgerLines gives true: the walk. -/
import Derived.Test.YtenggngcigkakaaGreatDoorIi
import Derived.Test.YtenggngcigkakaaGreatDoorJm
namespace Go.Proofs.YtenggngcigkakaaGreatDoor
open Go.RowKit

section
variable {P : Program} {ops : List Oper} {Q : Exit → Act → World → Prop} {md : Region.Mode} {S : World → Prop}
theorem take_y {i : Nat} {oi : Oper} {v : Value} {fuel : Nat} {listed : Array Bool} {a : Act} {w : World} (hi : ops[i]? = some oi)
    (hs : Region.noSelect ops.toArray = true) (hf : Region.free md ops.toArray listed i = true) (hr : (Region.ready md ops.toArray listed).contains i = true)
    (hQ : ∀ c a w, Q (.panic c) (a.put oi.dst v) w → Q (.panic c) a w) (hw : Region.wanted oi (yielded ops.toArray a.tmps) = true) (hy : ∀ w, S w → (execOp a.eval oi).run P w = .ok (.value v) w) (hS : S w)
    (h : wpAnyH P md ops.toArray Q S fuel (listed.setIfInBounds i true) (a.put oi.dst v) w) : wpAnyH P md ops.toArray Q S (fuel + 1) listed a w :=
  wpAnyH_take (i := i) (by simpa using hi) hs hf hr hQ (Or.inl ⟨hw, hy⟩) hS h
theorem take_n {i : Nat} {oi : Oper} {fuel : Nat} {listed : Array Bool} {a : Act} {w : World} (hi : ops[i]? = some oi)
    (hs : Region.noSelect ops.toArray = true) (hf : Region.free md ops.toArray listed i = true) (hr : (Region.ready md ops.toArray listed).contains i = true)
    (hQ : ∀ c a w, Q (.panic c) (a.put oi.dst undef) w → Q (.panic c) a w) (hw : Region.wanted oi (yielded ops.toArray a.tmps) = false) (hS : S w)
    (h : wpAnyH P md ops.toArray Q S fuel (listed.setIfInBounds i true) (a.put oi.dst undef) w) : wpAnyH P md ops.toArray Q S (fuel + 1) listed a w :=
  wpAnyH_take (i := i) (by simpa using hi) hs hf hr hQ (Or.inr ⟨hw, rfl⟩) hS h
theorem ready_1 {i : Nat} {o : Oper} {fuel : Nat} {listed : Array Bool} {a : Act} {w : World} (hi : ops[i]? = some o) (hr : Region.ready md ops.toArray listed = [i]) (hw : Region.wanted o (yielded ops.toArray a.tmps) = true)
    (h : ∀ K' : Act → World → Prop, Shut (∀ a w, S w → (S w → wpAnyH P md ops.toArray Q S fuel (listed.setIfInBounds i true) a w) → K' a w) → Oper.wp P o a w K' Q) : wpAnyH P md ops.toArray Q S (fuel + 1) listed a w :=
  wpAnyH_ready hr (by simp) (AllReadyH.cons (o := o) (by simpa using hi) (fun K hK => by rw [if_pos hw]; exact h K hK) AllReadyH.nil)
end
theorem block_then {P : Program} {s : Code} {K : Act → World → Prop} {Q' : Exit → Act → World → Prop} {n : Nat} {a : Act} {w : World} (h : s.wp P (Exit.then K (Exit.inBlock n (Exit.then K Q'))) a w) : s.wp P (Exit.inBlock n (Exit.then K Q')) a w :=
  Code.wp_mono (fun e a w h => by cases e <;> exact h) h
set_option maxRecDepth 100000 in
set_option maxHeartbeats 8000000 in
theorem lLin_nat (a : Option Addr) (n c : Nat) (l : List Ent) (x q : Nat) (w : World) (hl : RdE w (.slice a n c) l) (hx : x ≤ 255) (hq : q ≤ 255) (he : EnvL w) :
    Calls Tryz.prog 8 #[.slice a n c, .int .u8 x, .int .u8 q] w fun e w' => e = .returned (.bool true) ∧ Below w.heap.size w w' := by
  have HE := Lib.hid he
  have HL := Lib.hid hl
  have HRG : Hid (∀ x ∈ l, x.Rg) := by obtain ⟨_, _, _, _, _, h, _⟩ := hl; exact h
  have HST : Hid (Steady (entL 0 (l.take 100))) := entL_steady _ (fun x hx => HRG.out x (List.mem_of_mem_take hx)) 0 (by rw [List.length_take]; omega) (by rw [List.length_take]; omega)
  have HLN : Hid ((entL 0 (l.take 100)).length ≤ 100) := by rw [Hid, entL_length, List.length_take]; omega
  clear he hl HRG
  have HA : Hid (∀ W, RdE W (.slice a n c) l → Calls Tryz.prog 39 #[.slice a n c] W (NewA (entL 0 (l.take 100)) W)) := fun W h => atts_ok a n c l W h
  generalize entL 0 (l.take 100) = L at *
  obtain ⟨N, hN⟩ : ∃ N, L.length = N := ⟨_, rfl⟩
  have HN := Lib.hid hN
  have hN100 : N ≤ 100 := by have := HLN.out; omega
  have HSZ := lines_size HST.out.ok
  have HLL : Hid (16 * L.length ≤ (lines L).length ∧ (lines L).length ≤ 51 * L.length) := HSZ
  obtain ⟨LT, hLT⟩ : ∃ LT, bstr (lines L) = LT := ⟨_, rfl⟩
  have HLT := Lib.hid hLT
  have HPR : Hid (∀ W (q : Option Addr) (m k : Nat), RdA W (.slice q m k) L → EnvL W → Calls Tryz.prog 35 #[.slice q m k] W fun e w' => e = .returned (.tuple #[.string LT, .int .i64 0]) ∧ Below W.heap.size W w') := fun W q m k hr he => by
    have h := lprint_ok q m k L W hr HST.out.ok he
    rw [if_pos (by omega), if_pos (by omega)] at h
    unfold TextV at h
    rw [hLT] at h
    exact h
  have HSA : Hid (∀ W, EnvL W → Calls Tryz.prog 41 #[.string LT, .string ⟨#[10]⟩] W fun e w' => e = .returned (.slice (some ⟨W.heap.size, 0, none⟩) (N + 1) (N + 1)) ∧ w' = W.alloc (.cells (lineCells L) 9)) := fun W he => by
    obtain ⟨m, hm⟩ := he.env.ml
    have h := splitAfter_ok L m W (by omega) (by omega) hm
    rw [hLT, hN] at h
    exact h
  have HNE : Hid (0 < N → LT.toList.isEmpty = false) := fun h => by
    have h2 : LT ≠ ⟨#[]⟩ := fun e => by
      have e2 := congrArg ByteArray.size e
      rw [← hLT, bstr_size] at e2
      have e3 : (ByteArray.mk #[]).size = 0 := rfl
      omega
    have h3 := (Lib.bytes_beq_false_iff LT ⟨#[]⟩).2 h2
    cases hl : LT.toList with
    | nil => rw [hl] at h3; exact absurd h3 (by decide +kernel)
    | cons _ _ => rfl
  have HEM : Hid (N = 0 → LT = ⟨#[]⟩) := fun h => by
    obtain rfl : L = [] := List.eq_nil_of_length_eq_zero (by omega)
    rw [← hLT]; rfl
  have HB0 := Lib.hid (Below.refl w.heap.size w)
  clear hN HSZ hLT
  go_enter Tryz.func8, Tryz.ntmps8
  go_wp2_with fail
  refine (HA.out _ HL.out).mono ?_
  rintro e w1 ⟨v, rfl, ho, hb1⟩
  obtain ⟨p, c1, rfl⟩ : ∃ p c1, v = .slice p N c1 := by have := rd_slice (RdA.of_own ho); rw [HN.out] at this; exact this
  have HB1 := Lib.hid (bel2 HB0.out hb1)
  have HR1 := Lib.hid (RdA.of_own ho)
  clear ho hb1 HB0 HL HA
  go_wp2_with fail
  refine (HPR.out _ _ _ _ HR1.out (HE.out.below HB1.out)).mono ?_
  rintro e w2 ⟨rfl, hb2⟩
  have HB2 := Lib.hid (bel2 HB1.out hb2)
  clear hb2 HB1 HR1 HPR
  by_cases h0 : N = 0
  · obtain rfl := HEM.out h0
    go_wp2_with fail
    refine (works_ok _ (HE.out.below HB2.out)).mono ?_
    rintro e w5 ⟨rfl, hb5⟩
    have HB5 := Lib.hid (bel2 HB2.out hb5)
    clear hb5
    go_wp2
    go_ret
    exact ⟨rfl, HB5.out⟩
  · have hne := HNE.out (by omega)
    clear HNE HEM
    go_wp2_with fail
    refine (HSA.out _ (HE.out.below HB2.out)).mono ?_
    rintro e w3 ⟨rfl, rfl⟩
    have hb3 := bel_new w2 (.cells (lineCells L) 9)
    have HB3 := Lib.hid (bel2 HB2.out hb3)
    have HF3 := Lib.hid (Bk.new w2 9 (lineCells L))
    clear hb3 HB2 HSA
    have hg3 := size_up w2 (.cells (lineCells L) 9)
    obtain ⟨g, hg⟩ : ∃ g, w2.heap.size = g := ⟨_, rfl⟩
    rw [hg] at HF3 hg3 ⊢
    generalize w2.alloc (.cells (lineCells L) 9) = w3 at *
    clear hg w2
    have HCL : Hid (∀ W, Below w3.heap.size w3 W → ∀ j (hj : j < L.length), W.cell? ⟨g, j, none⟩ = some (.string (bstr (lineL L[j])))) := fun W hW j hj => ((HF3.out.below hW).cell j).trans (lineCells_at L j hj)
    have hs0 : (0 : Int) ≤ (N : Int) := by omega
    have hs1 : (N : Int) ≤ ((N + 1 : Nat) : Int) := by omega
    obtain ⟨K, hK⟩ : ∃ K, x % N = K := ⟨_, rfl⟩
    have hKN : K < N := by rw [← hK]; exact Nat.mod_lt _ (by omega)
    have hrem : Int.tmod (x : Int) (N : Int) = (K : Int) := by rw [← hK]; exact Int.ofNat_tmod _ _
    have hKL : K < L.length := by have := HN.out; omega
    have HLK : Hid (bstr (lineL L[K]) = bstr (lineL L[K])) := rfl
    have hcK := HCL.out _ (Below.refl _ _) K hKL
    obtain ⟨LK, hLK⟩ : ∃ LK, bstr (lineL L[K]) = LK := ⟨_, rfl⟩
    obtain ⟨BK, hBK⟩ : ∃ BK, bstr (aText L[K]) = BK := ⟨_, rfl⟩
    have HTR : Hid (∀ W, Calls Tryz.prog 42 #[.string LK, .string ⟨#[10]⟩] W fun e w' => e = .returned (.string BK) ∧ w' = W) := fun W => by
      refine (Tryz.strings_TrimSuffix LK ⟨#[10]⟩ W ?_).mono ?_
      · have := (aText_size (HST.out.ok _ (List.getElem_mem hKL))).2
        rw [← hLK, bstr_size]
        unfold lineL
        rw [List.length_append, List.length_cons]
        simp
        omega
      · rintro e w' ⟨rfl, rfl⟩
        refine ⟨?_, rfl⟩
        rw [← hLK, ← hBK, bstr_data]
        exact congrArg (fun z => Ending.returned (.string (bstr z))) (trim_line _)
    rw [hLK] at hcK
    clear HLK
    go_wp2_with fail
    refine (HTR.out _).mono ?_
    rintro e w' ⟨rfl, hw'⟩
    rw [hw']
    clear hw' w' HTR hcK
    obtain ⟨Q, hQ⟩ : ∃ Q, q % 8 = Q := ⟨_, rfl⟩
    have hQ2 : (q : Int) % 8 = (Q : Int) := by omega
    have hQ8 : Q < 8 := by omega
    have HQ8 := Lib.hid hQ8
    clear hQ hQ8
    obtain ⟨WB, hWB⟩ : ∃ WB, bstr (wrongL Q L[K]) = WB := ⟨_, rfl⟩
    have hbk : BK.size ≤ 50 := by rw [← hBK, bstr_size]; exact (aText_size (HST.out.ok _ (List.getElem_mem hKL))).2
    go_upto_if 48 with fail
    refine block_then ?_
    go_cut [11] from 44 to 73 (fun v wx => v = .string WB ∧ Below w3.heap.size w3 wx)
    case first =>
      have HW0 : Hid (Below w3.heap.size w3 w3) := Below.refl _ _
      have HWQ : Hid (bstr (wrongL Q L[K]) = WB) := hWB
      have HBQ : Hid (bstr (aText L[K]) = BK) := hBK
      have c0 : Q = 0 → (⟨#[48]⟩ : ByteArray) ++ BK = WB := fun e => by subst e; rw [← hWB, ← hBK]; rfl
      have c1 : Q = 1 → BK ++ (⟨#[32]⟩ : ByteArray) = WB := fun e => by subst e; rw [← hWB, ← hBK]; exact bstr_append _ _
      have c2 : Q = 2 → (⟨#[32]⟩ : ByteArray) ++ BK = WB := fun e => by subst e; rw [← hWB, ← hBK]; rfl
      have c6 : Q = 6 → BK ++ (⟨#[13]⟩ : ByteArray) = WB := fun e => by subst e; rw [← hWB, ← hBK]; exact bstr_append _ _
      have c7 : Q = 7 → (⟨#[120]⟩ : ByteArray) ++ BK = WB := fun e => by subst e; rw [← hWB, ← hBK]; rfl
      have c5 : Q = 5 → (⟨#[]⟩ : ByteArray) = WB := fun e => by subst e; rw [← hWB]; rfl
      have HRP : Hid (Q = 3 → Calls Tryz.prog 43 #[.string BK, .string ⟨#[32]⟩, .string ⟨#[32, 32]⟩, .int .i64 1] w3 fun e w' => e = .returned (.string WB) ∧ Below w3.heap.size w3 w') := fun e => by
        subst e
        obtain ⟨m, hm⟩ := (HE.out.below HB3.out).env.ml
        have hc : Lib.countB BK ⟨#[32]⟩ = 3 := by rw [← hBK]; exact (line_words _).1
        refine (Tryz.strings_Replace BK ⟨#[32]⟩ ⟨#[32, 32]⟩ 1 m w3 (by omega) hm (Nat.le_refl 1) (by
          rw [hc]
          have : (⟨#[32, 32]⟩ : ByteArray).size = 2 := rfl
          omega)).mono ?_
        rintro e w' ⟨rfl, hb⟩
        refine ⟨?_, hb⟩
        rw [← hWB, ← hBK, bstr_data]
        exact congrArg (fun z => Ending.returned (.string (bstr z))) (repl_line _)
      have HUP : Hid (Q = 4 → Calls Tryz.prog 44 #[.string BK] w3 fun e w' => e = .returned (.string WB) ∧ Below w3.heap.size w3 w') := fun e => by
        subst e
        refine (Tryz.strings_ToUpper_ascii BK w3 (by omega) (fun j b hb => ?_)).mono ?_
        · rw [← hBK, bstr_data] at hb
          exact aText_ascii _ b (List.mem_of_getElem? hb)
        rintro e w' ⟨rfl, hb⟩
        refine ⟨?_, hb⟩
        rw [← hWB, ← hBK, bstr_data]
        rfl
      clear hWB hBK
      go_wp2_with (first
        | (go_at_call 43; refine (HRP.out (by simp only [beq_iff_eq, beq_eq_false_iff_ne, ne_eq] at *; omega)).mono ?_; rintro e wz ⟨rfl, hbz⟩; have HWz := Lib.hid hbz; clear hbz)
        | (go_at_call 44; refine (HUP.out (by simp only [beq_iff_eq, beq_eq_false_iff_ne, ne_eq] at *; omega)).mono ?_; rintro e wz ⟨rfl, hbz⟩; have HWz := Lib.hid hbz; clear hbz))
      all_goals
        go_meet
        case rel =>
          have := HQ8.out
          first
          | exact ⟨congrArg Value.string (c0 (by simp only [beq_iff_eq, beq_eq_false_iff_ne, ne_eq] at *; omega)), HW0.out⟩
          | exact ⟨congrArg Value.string (c1 (by simp only [beq_iff_eq, beq_eq_false_iff_ne, ne_eq] at *; omega)), HW0.out⟩
          | exact ⟨congrArg Value.string (c2 (by simp only [beq_iff_eq, beq_eq_false_iff_ne, ne_eq] at *; omega)), HW0.out⟩
          | exact ⟨rfl, HWz.out⟩
          | exact ⟨congrArg Value.string (c5 (by simp only [beq_iff_eq, beq_eq_false_iff_ne, ne_eq] at *; omega)), HW0.out⟩
          | exact ⟨congrArg Value.string (c6 (by simp only [beq_iff_eq, beq_eq_false_iff_ne, ne_eq] at *; omega)), HW0.out⟩
          | exact ⟨congrArg Value.string (c7 (by simp only [beq_iff_eq, beq_eq_false_iff_ne, ne_eq] at *; omega)), HW0.out⟩
    case rest =>
      obtain ⟨rfl, hbc⟩ := hcut
      have HBC := Lib.hid hbc
      clear hbc
      have hk0 : (0 : Int) ≤ (K : Int) := by omega
      have hk1 : (K : Int) ≤ ((N + 1 : Nat) : Int) := by omega
      have hk2 : (K : Int) + 1 ≤ (N : Int) := by omega
      have hk3 : (0 : Int) ≤ (K : Int) + 1 := by omega
      have hkw : IntKind.i64.wrap ((K : Int) + 1) = (K : Int) + 1 := by rw [IntKind.wrap_i64]; omega
      obtain ⟨JA, hJA⟩ : ∃ J, bstr (lines (L.take K)) = J := ⟨_, rfl⟩
      obtain ⟨JB, hJB⟩ : ∃ J, bstr (lines (L.drop (K + 1))) = J := ⟨_, rfl⟩
      obtain ⟨WH, hWH⟩ : ∃ J, bstr (lines (L.take K) ++ (wrongL Q L[K] ++ 10 :: lines (L.drop (K + 1)))) = J := ⟨_, rfl⟩
      have hsz : (lines (L.take K)).length + (wrongL Q L[K]).length + (lines (L.drop (K + 1))).length ≤ 6000 := by
        have h1 := wrongL_len Q L[K]
        have h2 := HLL.out.2
        have h3 := HN.out
        rw [lines_parted L hKL] at h2
        simp only [List.length_append, List.length_cons] at h2
        omega
      have hcat : JA ++ WB ++ (⟨#[10]⟩ : ByteArray) ++ JB = WH := by
        rw [← hJA, ← hWB, ← hJB, ← hWH, show (⟨#[10]⟩ : ByteArray) = bstr [10] from rfl, bstr_append, bstr_append, bstr_append]
        simp
      have hzA : JA.size + WB.size + JB.size ≤ 6000 := by rw [← hJA, ← hWB, ← hJB, bstr_size, bstr_size, bstr_size]; exact hsz
      have HJ1 : Hid (∀ W, Below w3.heap.size w3 W → Calls Tryz.prog 45 #[.slice (some ⟨g, 0, none⟩) K (N + 1), .string ⟨#[]⟩] W fun e w' => e = .returned (.string JA) ∧ Below W.heap.size W w') := fun W hW => by
        have hl : ((L.take K).map fun a => bstr (lineL a)).length = K := by simp; omega
        have hj : Lib.join (((L.take K).map fun a => bstr (lineL a)).map (·.data.toList)) (⟨#[]⟩ : ByteArray).data.toList = lines (L.take K) := by
          rw [show (⟨#[]⟩ : ByteArray).data.toList = [] from rfl, join_plain, List.map_map, lines_flat]; rfl
        have h := Tryz.strings_Join g 0 (N + 1) ((L.take K).map fun a => bstr (lineL a)) ⟨#[]⟩ W (fun j x hx => by
          obtain ⟨hj, e⟩ := List.getElem?_eq_some_iff.1 hx
          have hj2 : j < K := by rw [hl] at hj; exact hj
          rw [Nat.zero_add, HCL.out W hW j (by omega), ← e]
          simp) (by have := hW.size; omega) (by omega) (by omega) (by rw [hj]; omega)
        rw [hl, hj] at h
        rw [← hJA]
        exact h
      have HJ2 : Hid (∀ W, Below w3.heap.size w3 W → Calls Tryz.prog 45 #[.slice (some ⟨g, K + 1, none⟩) (N - (K + 1)) (N - K), .string ⟨#[]⟩] W fun e w' => e = .returned (.string JB) ∧ Below W.heap.size W w') := fun W hW => by
        have hl : ((L.drop (K + 1)).map fun a => bstr (lineL a)).length = N - (K + 1) := by simp [HN.out]
        have hj : Lib.join (((L.drop (K + 1)).map fun a => bstr (lineL a)).map (·.data.toList)) (⟨#[]⟩ : ByteArray).data.toList = lines (L.drop (K + 1)) := by
          rw [show (⟨#[]⟩ : ByteArray).data.toList = [] from rfl, join_plain, List.map_map, lines_flat]; rfl
        have h := Tryz.strings_Join g (K + 1) (N - K) ((L.drop (K + 1)).map fun a => bstr (lineL a)) ⟨#[]⟩ W (fun j x hx => by
          obtain ⟨hj, e⟩ := List.getElem?_eq_some_iff.1 hx
          have hj2 : j < N - (K + 1) := by rw [hl] at hj; exact hj
          rw [HCL.out W hW (K + 1 + j) (by have := HN.out; omega), ← e]
          simp) (by have := hW.size; omega) (by omega) (by omega) (by rw [hj]; omega)
        rw [hl, hj] at h
        rw [← hJB]
        exact h
      have HPW : Hid (∀ W, EnvL W → Calls Tryz.prog 37 #[.string WH] W fun e w' => e = .returned (.tuple #[.slice none 0 0, .int .i64 ((K : Int) + 1), .int .i64 9]) ∧ Below W.heap.size W w') := fun W he => by
        rw [← hWH]; exact parse_wrong HST.out.ok hKL Q (by have := HLL.out.2; have := HN.out; omega) W he
      obtain ⟨M, hM⟩ : ∃ M, N = M + 1 := ⟨N - 1, by omega⟩
      have hML : M < L.length := by have := HN.out; omega
      obtain ⟨LC, hLC⟩ : ∃ J, bstr (lines (L.take M) ++ aText L[M]) = J := ⟨_, rfl⟩
      have HTT : Hid (∀ W, Calls Tryz.prog 42 #[.string LT, .string ⟨#[10]⟩] W fun e w' => e = .returned (.string LC) ∧ w' = W) := fun W => by
        refine (Tryz.strings_TrimSuffix LT ⟨#[10]⟩ W ?_).mono ?_
        · rw [← HLT.out, bstr_size]
          have := HLL.out.2; have := HN.out; omega
        · rintro e w' ⟨rfl, rfl⟩
          refine ⟨?_, rfl⟩
          have hd : lines (L.drop (M + 1)) = [] := by rw [List.drop_eq_nil_of_le (by have := HN.out; omega)]; rfl
          rw [← HLT.out, ← hLC, bstr_data, lines_parted L hML, hd, show lines (L.take M) ++ (aText L[M] ++ [10]) = (lines (L.take M) ++ aText L[M]) ++ [10] by simp]
          exact congrArg (fun z => Ending.returned (.string (bstr z))) (trim_line _)
      have HPC : Hid (∀ W, EnvL W → Calls Tryz.prog 37 #[.string LC] W fun e w' => e = .returned (.tuple #[.slice none 0 0, .int .i64 ((M : Int) + 1), .int .i64 9]) ∧ Below W.heap.size W w') := fun W he => by
        rw [← hLC]; exact parse_cut HST.out.ok (by have := HN.out; omega) (by have := HLL.out.2; have := HN.out; omega) W he
      have HM := Lib.hid hM
      clear hM
      have hf1 : (K : Int) ≤ (N : Int) + 1 := by omega
      have hf2 : (N : Int) ≤ (N : Int) + 1 := by omega
      have hf3 : ((K : Int) + 1).toNat = K + 1 := by omega
      have hf4 : (K : Int).toNat = K := by omega
      have hz1 : JA.size ≤ 6000 := by omega
      have hz2 : WB.size ≤ 6000 := by omega
      have hz3 : JB.size ≤ 6000 := by omega
      have hz4 : ¬ 9223372036854775807 < JA.size + WB.size := by omega
      have hz5 : ¬ 9223372036854775807 < JA.size + WB.size + 1 := by omega
      have hz6 : ¬ 9223372036854775807 < JA.size + WB.size + 1 + JB.size := by omega
      have HCAT := Lib.hid hcat
      clear hcat
      clear hJA hJB hWH hsz hLC hWB hBK hLK hne
      go_upto_region 26 with fail
      have hz0 : Below w3.heap.size w3 wc.drew := bel_drew HBC.out
      clear HBC
      refine wp_region_held_drew (S := fun W => Below w3.heap.size w3 W) (by kernel_rfl) hz0 (fun hHeld => ?_)
      refine' take_y (i := 0) rfl (by kernel_rfl) (by kernel_rfl) (by kernel_rfl) (fun _ _ _ h => h) (by rfl) ?hy0 (by assumption) ?rest0
      case hy0 => (intro w hSw; (try dsimp only at hSw); go_simp <;> with_reducible rfl)
      try simp only [Act.put, List.setIfInBounds_toArray, List.set_cons_zero, List.set_cons_succ]
      refine' take_y (i := 1) rfl (by kernel_rfl) (by kernel_rfl) (by kernel_rfl) (fun _ _ _ h => h) (by rfl) ?hy1 (by assumption) ?rest1
      case hy1 => (intro w hSw; (try dsimp only at hSw); go_simp <;> with_reducible rfl)
      try simp only [Act.put, List.setIfInBounds_toArray, List.set_cons_zero, List.set_cons_succ]
      refine' take_y (i := 2) rfl (by kernel_rfl) (by kernel_rfl) (by kernel_rfl) (fun _ _ _ h => h) (by rfl) ?hy2 (by assumption) ?rest2
      case hy2 => (intro w hSw; (try dsimp only at hSw); go_simp <;> with_reducible rfl)
      try simp only [Act.put, List.setIfInBounds_toArray, List.set_cons_zero, List.set_cons_succ]
      refine' take_y (i := 4) rfl (by kernel_rfl) (by kernel_rfl) (by kernel_rfl) (fun _ _ _ h => h) (by rfl) ?hy4 (by assumption) ?rest4
      case hy4 => (intro w hSw; (try dsimp only at hSw); go_simp <;> with_reducible rfl)
      try simp only [Act.put, List.setIfInBounds_toArray, List.set_cons_zero, List.set_cons_succ]
      refine' take_y (i := 7) rfl (by kernel_rfl) (by kernel_rfl) (by kernel_rfl) (fun _ _ _ h => h) (by rfl) ?hy7 (by assumption) ?rest7
      case hy7 => (intro w hSw; (try dsimp only at hSw); go_simp <;> with_reducible rfl)
      try simp only [Act.put, List.setIfInBounds_toArray, List.set_cons_zero, List.set_cons_succ]
      refine' take_y (i := 8) rfl (by kernel_rfl) (by kernel_rfl) (by kernel_rfl) (fun _ _ _ h => h) (by rfl) ?hy8 (by assumption) ?rest8
      case hy8 => (intro w hSw; (try dsimp only at hSw); go_simp <;> with_reducible rfl)
      try simp only [Act.put, List.setIfInBounds_toArray, List.set_cons_zero, List.set_cons_succ]
      refine' take_y (i := 9) rfl (by kernel_rfl) (by kernel_rfl) (by kernel_rfl) (fun _ _ _ h => h) (by rfl) ?hy9 (by assumption) ?rest9
      case hy9 => (intro w hSw; (try dsimp only at hSw); go_simp <;> with_reducible rfl)
      try simp only [Act.put, List.setIfInBounds_toArray, List.set_cons_zero, List.set_cons_succ]
      refine' take_y (i := 10) rfl (by kernel_rfl) (by kernel_rfl) (by kernel_rfl) (fun _ _ _ h => h) (by rfl) ?hy10 (by assumption) ?rest10
      case hy10 => (intro w hSw; (try dsimp only at hSw); go_simp <;> with_reducible rfl)
      try simp only [Act.put, List.setIfInBounds_toArray, List.set_cons_zero, List.set_cons_succ]
      refine' ready_1 (i := 3) rfl (by kernel_rfl) (by rfl) (fun KK hKK => ?call3)
      go_simp
      (go_at_call 45; refine (HJ1.out _ hz0).mono ?_; rintro e wa ⟨rfl, hba⟩; have hza := bel2 hz0 hba; clear hba)
      (try go_wp2_with fail)
      refine hKK.out _ _ ?_ (fun hHeld => ?_)
      · exact hza
      clear hKK KK
      try simp only [Act.put, List.setIfInBounds_toArray, List.set_cons_zero, List.set_cons_succ]
      refine' take_y (i := 5) rfl (by kernel_rfl) (by kernel_rfl) (by kernel_rfl) (fun _ _ _ h => h) (by rfl) ?hy5 (by assumption) ?rest5
      case hy5 => (intro w hSw; (try dsimp only at hSw); go_simp <;> with_reducible rfl)
      try simp only [Act.put, List.setIfInBounds_toArray, List.set_cons_zero, List.set_cons_succ]
      refine' take_y (i := 6) rfl (by kernel_rfl) (by kernel_rfl) (by kernel_rfl) (fun _ _ _ h => h) (by rfl) ?hy6 (by assumption) ?rest6
      case hy6 => (intro w hSw; (try dsimp only at hSw); go_simp <;> with_reducible rfl)
      try simp only [Act.put, List.setIfInBounds_toArray, List.set_cons_zero, List.set_cons_succ]
      refine' ready_1 (i := 11) rfl (by kernel_rfl) (by rfl) (fun KK hKK => ?call11)
      go_simp
      (go_at_call 45; refine (HJ2.out _ hza).mono ?_; rintro e wb ⟨rfl, hbb⟩; have hzb := bel2 hza hbb; clear hbb)
      (try go_wp2_with fail)
      refine hKK.out _ _ ?_ (fun hHeld => ?_)
      · exact hzb
      clear hKK KK
      try simp only [Act.put, List.setIfInBounds_toArray, List.set_cons_zero, List.set_cons_succ]
      refine' take_y (i := 12) rfl (by kernel_rfl) (by kernel_rfl) (by kernel_rfl) (fun _ _ _ h => h) (by rfl) ?hy12 (by assumption) ?rest12
      case hy12 => (intro w hSw; (try dsimp only at hSw); go_simp <;> with_reducible rfl)
      try simp only [Act.put, List.setIfInBounds_toArray, List.set_cons_zero, List.set_cons_succ]
      refine' take_y (i := 13) rfl (by kernel_rfl) (by kernel_rfl) (by kernel_rfl) (fun _ _ _ h => h) (by rfl) ?hy13 (by assumption) ?rest13
      case hy13 => (intro w hSw; (try dsimp only at hSw); go_simp <;> with_reducible rfl)
      try simp only [Act.put, List.setIfInBounds_toArray, List.set_cons_zero, List.set_cons_succ]
      refine wpAnyH_done (by kernel_rfl) ?_ _
      clear HJ1 HJ2 hz4 hz5 hz6 hz1 hz2 hz3 hza hHeld
      rw [HCAT.out]
      clear HCAT
      have HBD := Lib.hid (bel2 HB3.out hzb)
      clear hzb HB3
      go_wp2_with fail
      refine (HPW.out _ (HE.out.below HBD.out)).mono ?_
      rintro e w5 ⟨rfl, hb5⟩
      have HB5 := Lib.hid (bel2 HBD.out hb5)
      clear hb5 HBD HPW
      go_wp2_with fail
      refine (HTT.out _).mono ?_
      rintro e w' ⟨rfl, hw'⟩
      rw [hw']
      clear hw' w' HTT
      go_wp2_with fail
      refine (HPC.out _ (HE.out.below HB5.out)).mono ?_
      rintro e w6 ⟨rfl, hb6⟩
      have HB6 := Lib.hid (bel2 HB5.out hb6)
      clear hb6 HB5 HPC
      have hMN : (M : Int) + 1 = (N : Int) := by have := HM.out; omega
      rw [hMN]
      go_wp2_with fail
      refine (works_ok _ (HE.out.below HB6.out)).mono ?_
      rintro e w7 ⟨rfl, hb7⟩
      have HB7 := Lib.hid (bel2 HB6.out hb7)
      clear hb7
      go_wp2
      go_ret
      exact ⟨rfl, HB7.out⟩
theorem lLin_walk (a : Option Addr) (n c : Nat) (l : List Ent) (x q : Int) (w : World) (hl : RdE w (.slice a n c) l) (h0 : 0 ≤ x) (h1 : x ≤ 255) (k0 : 0 ≤ q) (k1 : q ≤ 255) (he : EnvL w) :
    Calls Tryz.prog 8 #[.slice a n c, .int .u8 x, .int .u8 q] w fun e w' => e = .returned (.bool true) ∧ Below w.heap.size w w' := by
  obtain ⟨x, rfl⟩ := Int.eq_ofNat_of_zero_le h0
  obtain ⟨q, rfl⟩ := Int.eq_ofNat_of_zero_le k0
  exact lLin_nat a n c l x q w hl (by omega) (by omega) he
end Go.Proofs.YtenggngcigkakaaGreatDoor
