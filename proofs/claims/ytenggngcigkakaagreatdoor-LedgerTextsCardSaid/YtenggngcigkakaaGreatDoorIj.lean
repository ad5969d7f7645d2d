/- The contract of slices.Repeat on attempts (bits.Mul, copies that double). -/
import Derived.Test.YtenggngcigkakaaGreatDoorIi
import Derived.Laws.CopyRow
import Derived.Laws.CopyOwn
import Derived.Laws.MakeOwn
import Derived.Deep.RegionLaw
namespace Go.Proofs.YtenggngcigkakaaGreatDoor
open Go.RowKit Go.ChangeShapes

/-! ### copy, for elements of more than one cell -/
theorem run_copy_row_k {P : Program} (w : World) (dT sT ty elem : TypeId) (g o dLen dCap : Nat) (a : Addr) (sLen sCap k m : Nat) (cur : Array Value) (t : TypeId) (cs : List Value)
    (hu : P.underlying dT = some (.slice elem)) (hs : (P.info? elem).map (·.size) = some k)
    (hg : w.heap[g]? = some (.cells cur t (0, 0))) (hm : Nat.min sLen dLen = m) (hn : cs.length = m * k)
    (hsrc : ∀ j v, cs[j]? = some v → w.cell? (a.add j) = some v) (hfit : o + cs.length ≤ cur.size) (h1 : ∀ v ∈ cs, v.oneCell' = true) :
    (Builtin.copy_ #[dT, sT] ty #[.slice (some ⟨g, o, none⟩) dLen dCap, .slice (some a) sLen sCap]).run P w =
      .ok (goInt m) (w.setRow g (cur.toList.take o ++ cs ++ cur.toList.drop (o + cs.length)).toArray) := by
  have hl := run_loadCells_list (P := P) w a cs hsrc
  have hst := run_storeCells_at P g o t cs 0 cur w hg (by simpa using hfit) h1
  rw [hn] at hl
  cases hq : P.info? elem with
  | none => simp [hq] at hs
  | some i =>
    have hi : i.size = k := by simpa [hq] using hs
    simp [Builtin.copy_, run_underlying hu, Builtin.lenOf, Builtin.firstCells, sizeOf, typeInfo, hq, hi, hm, hl, hst]
theorem run_copy_zero {P : Program} (w : World) (dT sT ty elem : TypeId) (d a : Option Addr) (dLen dCap sLen sCap k : Nat) (hu : P.underlying dT = some (.slice elem)) (hs : (P.info? elem).map (·.size) = some k) (hn : Nat.min sLen dLen = 0) :
    (Builtin.copy_ #[dT, sT] ty #[.slice d dLen dCap, .slice a sLen sCap]).run P w = .ok (goInt 0) w := by
  cases hq : P.info? elem with
  | none => simp [hq] at hs
  | some i =>
    have hl : ∀ (x : Addr), (loadCells x 0).run P w = .ok #[] w := fun x => by simpa using run_loadCells_list (P := P) w x [] (by simp)
    cases d <;> cases a <;> simp [Builtin.copy_, run_underlying hu, Builtin.lenOf, Builtin.firstCells, sizeOf, typeInfo, hq, hn, storeCells, hl]
theorem step_copy_w {w : World} {ops : Array Oper} {o : Oper} {a : Act} {K : Act → World → Prop} {Q : Exit → Act → World → Prop} {E : Prop} (hw : Region.wanted o (yielded ops a.tmps) = true) (dst : Option Nat) (hd : o.dst = dst) (s x : Operand) (t tn : TypeId)
    (ho : o.op = .call { callee := .builtin .copy, args := #[s, x], argTypes := #[t, tn] }) (vs vx : Value) (hs : a.eval s = vs) (hx : a.eval x = vx)
    (v' : Value) (w' : World) (hr : (Builtin.copy_ #[t, tn] o.type #[vs, vx]).run Tryz.prog w = .ok v' w') (h : K (a.put dst v') w') :
    if Region.wanted o (yielded ops a.tmps) = true then Oper.wp Tryz.prog o a w K Q else E := by
  rw [if_pos hw]
  unfold Oper.wp execOp
  simp only [ho, resolve, invoke, builtin, Sem.run_bind, Sem.run_pure, Result.andThen_ok, List.map_toArray, List.map_cons, List.map_nil, hs, hx, hr]
  subst hd
  exact h

/-! ### a list many times -/
def rep (l : List Att) (m : Nat) : List Att := (List.replicate m l).flatten
theorem rep_length (l : List Att) (m : Nat) : (rep l m).length = m * l.length := by simp [rep]
theorem rep_add (l : List Att) (a b : Nat) : rep l (a + b) = rep l a ++ rep l b := by
  unfold rep
  rw [← List.replicate_append_replicate, List.flatten_append]
theorem rep_mem {l : List Att} {m : Nat} {x : Att} (h : x ∈ rep l m) : x ∈ l := by
  simp only [rep, List.mem_flatten, List.mem_replicate] at h
  obtain ⟨y, ⟨_, rfl⟩, h⟩ := h
  exact h
theorem rep_take (l : List Att) (a b : Nat) (h : b ≤ a) : (rep l a).take (b * l.length) = rep l b := by
  obtain ⟨d, rfl⟩ : ∃ d, a = b + d := ⟨a - b, by omega⟩
  rw [rep_add, List.take_append_of_le_length (by rw [rep_length]; omega), List.take_of_length_le (by rw [rep_length]; omega)]
theorem rep_cells (l : List Att) (a b : Nat) (h : b ≤ a) : (cls (rep l a)).take (b * l.length * 6) = cls (rep l b) := by
  rw [cls_take, rep_take l a b h]

theorem mul_ok (x y : Nat) (hx : x < 4294967296) (hy : y < 4294967296) (w : World) : Calls Tryz.prog 60 #[.int .u64 x, .int .u64 y] w fun e w' => e = .returned (.tuple #[.int .u64 0, .int .u64 ((x * y : Nat) : Int)]) ∧ w = w' := by
  have hxy : x * y < 18446744073709551616 := Nat.lt_of_lt_of_le (Nat.mul_lt_mul'' hx hy) (by decide)
  have HM : Hid (Calls Tryz.prog 83 #[.int .u64 x, .int .u64 y] w fun e w' => e = .returned (.tuple #[.int .u64 0, .int .u64 ((x * y : Nat) : Int)]) ∧ w = w') := by
    refine (Tryz.bits_Mul64 x y (by omega) (by omega) w).mono ?_
    rintro e w' ⟨rfl, rfl⟩
    rw [Nat.div_eq_of_lt hxy, Nat.mod_eq_of_lt hxy]
    exact ⟨rfl, rfl⟩
  generalize x * y = z at *
  go_enter Tryz.func60, Tryz.ntmps60
  go_wp2_with fail
  refine HM.out.mono ?_
  rintro e w' ⟨rfl, rfl⟩
  go_wp2
  go_ret2
  exact ⟨rfl, rfl⟩

/-- The row g of T attempts holds the list q times, at its head. -/
def RepW (w : World) (g T q : Nat) (l : List Att) : Prop :=
  ∃ cur, Bk w g 32 cur ∧ cur.size = T * 6 ∧ cur.toList.take (q * l.length * 6) = cls (rep l q)
theorem goInt_eq (n : Nat) : goInt n = .int .i64 (n : Int) := rfl
theorem bk_setRow {w : World} {g : Nat} {t : TypeId} {cur : Array Value} (h : Bk w g t cur) (cs : Array Value) : Bk (w.setRow g cs) g t cs := setRow_heap w g cur cs t _ h
theorem rep_put {W : World} {g T q d m : Nat} {l : List Att} {cur : Array Value} (hb : Bk W g 32 cur) (hs : cur.size = T * 6) (h : cur.toList.take (q * l.length * 6) = cls (rep l q)) (hT : l.length * m = T) (hq : q + d ≤ m) :
    RepW (W.setRow g (cur.toList.take (q * l.length * 6) ++ cls (rep l d) ++ cur.toList.drop (q * l.length * 6 + (cls (rep l d)).length)).toArray) g T (q + d) l := by
  have hle : (q + d) * l.length ≤ T := by rw [← hT, Nat.mul_comm l.length m]; exact Nat.mul_le_mul_right _ hq
  rw [Nat.add_mul] at hle
  have e1 : (cls (rep l d)).length = d * l.length * 6 := by rw [cls_length, rep_length]
  have hcl : cur.toList.length = T * 6 := by rw [← hs]; rfl
  have e2 : (cur.toList.take (q * l.length * 6)).length = q * l.length * 6 := by rw [List.length_take, hcl]; omega
  refine ⟨_, bk_setRow hb _, ?_, ?_⟩
  · rw [List.size_toArray, List.length_append, List.length_append, e2, e1, List.length_drop, hcl]
    omega
  · rw [h] at e2 ⊢
    rw [Nat.add_mul, Nat.add_mul, rep_add, cls_append, List.take_append_of_le_length (by rw [List.length_append, e2, e1]; exact Nat.le_refl _), List.take_of_length_le (by rw [List.length_append, e2, e1]; exact Nat.le_refl _)]
theorem size_att : (Tryz.prog.info? 32).map (·.size) = some 6 := by kernel_rfl
theorem rep_one (l : List Att) : rep l 1 = l := by simp [rep]
/-- The first copy. -/
theorem copy_first {W : World} {g T m n c : Nat} {a : Option Addr} {l : List Att} {cur : Array Value} (hr : RdA W (.slice a n c) l) (hb : Bk W g 32 cur) (hs : cur.size = T * 6) (hT : l.length * m = T) (hm : 1 ≤ m) {B : Nat} {w0 : World} (hB : Below B w0 W) (hg : B ≤ g) :
    ∃ W2, (Builtin.copy_ #[22, 22] 3 #[.slice (some ⟨g, 0, none⟩) T T, .slice a n c]).run Tryz.prog W = .ok (.int .i64 n) W2 ∧ RepW W2 g T 1 l ∧ Below B w0 W2 := by
  obtain ⟨rfl, h1, h2, h3⟩ := hr.cap
  have hle : l.length ≤ T := by rw [← hT]; exact Nat.le_mul_of_pos_right _ hm
  by_cases h0 : l.length = 0
  · have hl : l = [] := List.eq_nil_of_length_eq_zero h0
    refine ⟨W, ?_, ⟨cur, hb, hs, by rw [rep_one, hl]; rfl⟩, hB⟩
    rw [h0]
    exact run_copy_zero W _ _ _ _ _ _ _ _ _ _ 6 Tryz.underlying22 size_att (by simp)
  · cases a with
    | none => have := h3 rfl; omega
    | some ad =>
      refine ⟨_, ?_, rep_put (q := 0) (d := 1) (m := m) hb hs (by simp [rep, cls]) hT (by omega), ?_⟩
      · have := run_copy_row_k (P := Tryz.prog) W 22 22 3 32 g 0 T T ad l.length c 6 l.length cur 32 (cls l) Tryz.underlying22 size_att hb (Nat.min_eq_left hle) (cls_length l) hr.news (by rw [cls_length]; omega) (cls_one l)
        rw [goInt_eq] at this
        rw [this, rep_one]
        simp
      · exact below_setRow hB hg _
/-- The copies behind it. -/
theorem copy_more {W : World} {g T q m n N : Nat} {l : List Att} (h : RepW W g T q l) (hN : l.length = N) (hT : l.length * m = T) (hq : q ≤ m) (hn : q * N = n) {B : Nat} {w0 : World} (hB : Below B w0 W) (hg : B ≤ g) :
    ∃ W2 d, (Builtin.copy_ #[22, 22] 3 #[.slice (some ⟨g, n * 6, none⟩) (T - n) (T - n), .slice (some ⟨g, 0, none⟩) n T]).run Tryz.prog W = .ok (.int .i64 (d * N : Nat)) W2 ∧ RepW W2 g T (q + d) l ∧ Below B w0 W2 ∧ q + d ≤ m ∧ d = min q (m - q) := by
  subst hN
  obtain ⟨cur, hb, hs, hc⟩ := h
  refine ⟨_, min q (m - q), ?_, rep_put (q := q) (d := min q (m - q)) (m := m) hb hs hc hT (by omega), below_setRow hB hg _, by omega, rfl⟩
  have e1 : T - n = (m - q) * l.length := by rw [← hT, ← hn, Nat.sub_mul, Nat.mul_comm l.length m]
  have hmin : Nat.min n (T - n) = min q (m - q) * l.length := by
    rw [e1, ← hn]
    show min (q * l.length) ((m - q) * l.length) = _
    rw [Nat.mul_min_mul_right]
  have hle : (q + min q (m - q)) * l.length ≤ T := by rw [← hT, Nat.mul_comm l.length m]; exact Nat.mul_le_mul_right _ (by omega)
  rw [Nat.add_mul] at hle
  have hd : min q (m - q) * l.length ≤ q * l.length := Nat.mul_le_mul_right _ (by omega)
  generalize hD : min q (m - q) = D at *
  have := run_copy_row_k (P := Tryz.prog) W 22 22 3 32 g (n * 6) (T - n) (T - n) ⟨g, 0, none⟩ n T 6 (D * l.length) cur 32 (cls (rep l D)) Tryz.underlying22 size_att hb hmin (by rw [cls_length, rep_length]) (fun j v hj => by
    have hjl := (List.getElem?_eq_some_iff.1 hj).1
    rw [cls_length, rep_length] at hjl
    have e : (⟨g, 0, none⟩ : Addr).add j = ⟨g, j, none⟩ := by unfold Addr.add; split <;> simp_all
    rw [e, hb.cell, ← Array.getElem?_toList]
    rw [← rep_cells l q D (by omega), ← hc, List.take_take, List.getElem?_take_of_lt (by omega)] at hj
    exact hj) (by rw [cls_length, rep_length, hs, ← hn]; omega) (cls_one _)
  rw [goInt_eq] at this
  rw [this, ← hn]
set_option maxRecDepth 100000 in
set_option maxHeartbeats 4000000 in
theorem repeat_ok (a : Option Addr) (n c : Nat) (l : List Att) (m : Nat) (w : World) (hr : RdA w (.slice a n c) l) (hm1 : 1 ≤ m) (hm2 : m ≤ 100000) (hl : l.length ≤ 1000) : Calls Tryz.prog 33 #[.slice a n c, .int .i64 m] w (NewA (rep l m) w) := by
  obtain ⟨hn, hcap, hcm, _⟩ := hr.cap
  obtain ⟨j0, hj, hy0, hy1, hy2⟩ := info_parts info_att
  obtain ⟨T, hT⟩ : ∃ T, l.length * m = T := ⟨_, rfl⟩
  have hTb : T ≤ 100000000 := by rw [← hT]; exact Nat.le_trans (Nat.mul_le_mul hl hm2) (by decide)
  have hTn : n ≤ T := by rw [hn, ← hT]; exact Nat.le_mul_of_pos_right _ hm1
  have HMU : Hid (∀ W, Calls Tryz.prog 60 #[.int .u64 (n : Int), .int .u64 (m : Int)] W fun e w' => e = .returned (.tuple #[.int .u64 0, .int .u64 (T : Int)]) ∧ W = w') := fun W => by
    have := mul_ok l.length m (by omega) (by omega) W
    rw [hT, ← hn] at this
    exact this
  have hmk := run_make (P := Tryz.prog) w 22 32 j0 _ Tryz.underlying22 hj hy0 .i64 .i64 T T (by omega) (Int.le_refl _) (by rw [hy2]; omega) (by omega)
  simp only [Int.toNat_natCast, hy1] at hmk
  obtain ⟨cur0, hcur0⟩ : ∃ cur0, madeCells (Value.agg #[.int .i64 0, .int .i64 0, .int .i64 0, .int .u32 0, .int .i64 0, .int .i64 0]).cells (T * 6) = cur0 := ⟨_, rfl⟩
  have hcs : cur0.size = T * 6 := by rw [← hcur0, size_madeCells]
  rw [hcur0] at hmk
  have hb1 := Bk.new w 32 cur0
  have hB1 := bel_new w (.cells cur0 32)
  obtain ⟨W2, hcp, hrp, hB2⟩ := copy_first (hr.below hB1) hb1 hcs hT hm1 hB1 (Nat.le_refl _)
  have HN := Lib.hid hn
  have HT := Lib.hid hT
  have HRP := Lib.hid hrp
  have HB2 := Lib.hid hB2
  clear hr hT hn hrp hB2 hb1 hB1 hcs hcur0 hcap hj hy0 hy1 hy2
  go_enter Tryz.func33, Tryz.ntmps33
  go_wp2_with fail
  refine (HMU.out _).mono ?_
  rintro e w' ⟨rfl, rfl⟩
  go_wp2
  go_loopw [8] (fun v wr => ∃ q k : Nat, 1 ≤ q ∧ q ≤ m ∧ k ≤ T ∧ v = .int .i64 k ∧ Hid (q * n = k) ∧ Hid (RepW wr w.heap.size T q l) ∧ Hid (Below w.heap.size w wr)) (fun v _ => T - (intOf v).toNat)
  case atStart => exact ⟨1, n, Nat.le_refl _, hm1, hTn, rfl, Nat.one_mul n, HRP, HB2⟩
  case round =>
    obtain ⟨q, k, hq1, hqm, hkT, rfl, HK, HR, HB⟩ := hrel
    by_cases hlt : k < T
    · have hrd : RepW wr.drew w.heap.size T q l := HR.out
      obtain ⟨W3, d, hc3, hr3, hb3, hq3, hd3⟩ := copy_more hrd HN.out.symm HT.out hqm HK.out (bel_drew HB.out) (Nat.le_refl _)
      obtain ⟨D, hD⟩ : ∃ D, d * n = D := ⟨_, rfl⟩
      have hqn : q < m := by
        rcases Nat.lt_or_ge q m with h | h
        · exact h
        · obtain rfl : q = m := by omega
          have h1 := HT.out
          rw [← HN.out, Nat.mul_comm, HK.out] at h1
          omega
      have hn1 : 1 ≤ n := by
        rcases Nat.eq_zero_or_pos n with h | h
        · have h1 := HT.out
          rw [← HN.out, h, Nat.zero_mul] at h1
          omega
        · exact h
      have hD1 : 1 ≤ D := by rw [← hD]; exact Nat.mul_pos (by omega) hn1
      have hkD : k + D ≤ T := by
        have h1 := HT.out
        have h2 : (q + d) * n ≤ m * n := Nat.mul_le_mul_right _ hq3
        rw [← HN.out, Nat.mul_comm] at h1
        rw [Nat.add_mul, HK.out, hD] at h2
        omega
      rw [hD] at hc3
      have HKD : Hid ((q + d) * n = k + D) := by rw [Hid, Nat.add_mul, HK.out, hD]
      have hq4 : 1 ≤ q + d := by omega
      have HR3 := Lib.hid hr3
      have HB3 := Lib.hid hb3
      have HQ := Lib.hid (show 1 ≤ q + d ∧ q + d ≤ m from ⟨hq4, hq3⟩)
      clear hD hr3 hb3 hd3 hq3 hq4 hqn hn1 hrd HK hcp hmk
      have hne : ¬ T = k := by omega
      have hwr : IntKind.i64.wrap ((k : Int) + (D : Int)) = (k : Int) + (D : Int) := by rw [IntKind.wrap_i64]; omega
      have hi1 : (k : Int) ≤ (T : Int) := by omega
      have hi0 : (0 : Int) ≤ (k : Int) := by omega
      go_wp2
      go_region_held3 (fun _ => True) (exact True.intro)
        (first
        | (refine step_copy_w (by rfl) (some 45) (by rfl) _ _ _ _ (by rfl) _ _ (by rfl) (by rfl) _ _ hc3 ?_))
      all_goals
        go_wp2
        go_roundw
        case rel => exact ⟨q + d, k + D, HQ.out.1, HQ.out.2, hkD, by go_num, HKD.out, HR3.out, HB3.out⟩
        case measure => simp [intOf]; omega
    · obtain rfl : k = T := by omega
      have HL : Hid (rep l q = rep l m ∧ q * l.length = k) := by
        have h1 := HT.out
        have h2 := HK.out
        rw [HN.out] at h2
        refine ⟨?_, h2⟩
        rcases Nat.eq_zero_or_pos l.length with h | h
        · have : l = [] := List.eq_nil_of_length_eq_zero h
          subst this
          simp [rep]
        · rw [Nat.mul_comm] at h1
          rw [Nat.eq_of_mul_eq_mul_right h (h2.trans h1.symm)]
      clear hlt hcp hmk
      go_wp2
      go_ret
      obtain ⟨cur, hb, hs, hc⟩ := HR.out
      rw [HL.out.1, HL.out.2] at hc
      have hlen : (rep l m).length = k := by rw [← HL.out.1, rep_length, HL.out.2]
      refine ⟨_, rfl, ⟨?_, .inr ⟨w.heap.size, k, cur, ?_, Nat.le_refl _, hb, ?_, ?_, ?_, ?_⟩⟩, HB.out⟩
      · rw [cls_length]
      · rw [hlen]; rfl
      · rw [hlen]; exact Nat.le_refl _
      · unfold maxLen; omega
      · exact hs
      · rw [hlen]; exact hc
end Go.Proofs.YtenggngcigkakaaGreatDoor
