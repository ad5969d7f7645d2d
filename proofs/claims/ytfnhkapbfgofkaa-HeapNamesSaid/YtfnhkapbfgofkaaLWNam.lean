/- The walk of HeapNames: it returns true for every input. -/
import Derived.Test.YtfnhkapbfgofkaaWw
import Derived.Test.YtfnhkapbfgofkaaWac
namespace Go.Proofs.Ytfnhkapbfgofkaa
open Go.RowKit

/-- A slot that is held has fields in the map. -/
theorem held_map {w0 w : World} {mb b p t M e n f k : Nat} {H : Hp} {pR : Option Addr} {qR cR : Nat} {R : List (Nat × Nat)} {pQ : Option Addr} {qQ cQ : Nat} {Q : List (Nat × Nat)} {N : Nat × Nat → Option (List Rf)} {P : Pl}
    (h : Mb w0 w mb b p t M e H pR qR cR R pQ qQ cQ Q N P) (hm : Mo H n f k R Q N) {y i : Nat} (hy : H.t.held[y]? = some i) : ∃ x l, P (i, H.t.g i) = some (x, l) ∧ RgR i (H.t.g i) := by
  obtain ⟨h1, h2⟩ := mem_sel.1 (List.mem_of_getElem? hy)
  have hr := hm.all i (by rw [← hm.nn]; exact h1) h2
  have hN := hm.val _ hr
  obtain ⟨x, l, hP⟩ : ∃ x l, P (i, H.t.g i) = some (x, l) := by
    cases c : P (i, H.t.g i) with
    | none => have := h.fd.no _ c; rw [hN] at this; cases this
    | some x => exact ⟨x.1, x.2, rfl⟩
  obtain ⟨L, _, _, _, _, _, _, RG⟩ := h.fd.yes _ _ _ hP
  exact ⟨x, l, hP, RG⟩
set_option maxHeartbeats 8000000 in
set_option maxRecDepth 100000 in
theorem wNam_walk (x0 y0 : Int) (a : Option Addr) (len cap : Nat) (s : Nat → Trn) (w : World) (h00 : 0 ≤ x0) (h01 : x0 ≤ 255) (h02 : 0 ≤ y0) (h03 : y0 ≤ 4294967295) (_ : len ≤ cap) (_ : cap ≤ 9223372036854775807) (hu : Trns w a len s) :
    Calls Try.prog 5 #[.int .u8 x0, .int .u32 y0, .slice a len cap] w fun e w' => e = .returned (.bool true) ∧ Below w.heap.size w w' := by
  obtain ⟨x, rfl⟩ : ∃ x : Nat, x0 = x := ⟨x0.toNat, by omega⟩
  obtain ⟨fy, rfl⟩ : ∃ fy : Nat, y0 = fy := ⟨y0.toNat, by omega⟩
  have hx : x ≤ 255 := by omega
  have hx2 : (x : Int) ≤ 255 := by omega
  by_cases hlen : 120 < len
  · have hlen2 : (120 : Int) < len := by omega
    go_enter Try.func5, Try.ntmps5
    go_wp2_with (go_at_call 11; refine (works_ok _).mono ?_; rintro e w5 ⟨rfl, hb⟩; have HB := Lib.hid hb; clear hb)
    go_ret
    exact ⟨rfl, HB.out⟩
  have hlen2 : (len : Int) ≤ 120 := by omega
  have BG := Lib.hid (begin_any x fy w hx (by omega))
  generalize fg fy = ff at *
  have HU := Lib.hid hu
  clear hu
  go_enter Try.func5, Try.ntmps5
  go_wp2_with (go_at_call 31; refine BG.out.mono ?_; rintro e w1 ⟨mb, b, rfl, HM0⟩)
  clear BG
  go_loopw [8] (fun v wr => ∃ k : Nat, k ≤ len ∧ v = .int .i64 k ∧ Hid (Ms w wr mb b (1 + x) ff k)) (fun v _ => len - (intOf v).toNat)
  case atStart => exact ⟨0, Nat.zero_le _, rfl, HM0.out⟩
  case round =>
    obtain ⟨k, hk, rfl, HM⟩ := hrel
    clear HM0
    by_cases hlt : k < len
    · obtain ⟨B, off, rfl, hB, hcells⟩ := (HU.out.below HM.out.bel).at_ (show 0 < len by omega)
      have hT := HU.out.bd k hlt
      have TK : Hid (∀ X, Ms w X mb b (1 + x) ff k → Calls Try.prog 32 #[.pointer (some ⟨mb, 0, none⟩), .agg #[.int .u8 (s k).kind, .int .u8 (s k).i, .int .u8 (s k).k]] X fun e w' => e = .returned (.bool true) ∧ Hid (Ms w w' mb b (1 + x) ff (k + 1))) := fun X hX => turn_ok (s k) hT hX (by omega)
      have s1 : wr.cell? ⟨B, off + k * 3, none⟩ = some (.int .u8 (s k).kind) := hcells k hlt 0 _ rfl
      have s2 : wr.cell? ⟨B, off + k * 3 + 1, none⟩ = some (.int .u8 (s k).i) := hcells k hlt 1 _ rfl
      have s3 : wr.cell? ⟨B, off + k * 3 + 2, none⟩ = some (.int .u8 (s k).k) := hcells k hlt 2 _ rfl
      have hwk : IntKind.i64.wrap ((k : Int) + 1) = (k : Int) + 1 := by rw [IntKind.wrap_i64]; omega
      clear hcells hT
      generalize (s k).kind = T0 at *
      generalize (s k).i = T1 at *
      generalize (s k).k = T2 at *
      go_wp2_with (go_at_call 32; refine (TK.out _ HM.out).mono ?_; rintro e w5 ⟨rfl, HM5⟩)
      go_roundw
      case rel => exact ⟨k + 1, by omega, by go_num, HM5.out⟩
      case measure => simp [intOf]; omega
    · obtain rfl : k = len := by omega
      obtain ⟨p, tt, M, e, H, pR, qR, cR, R, pQ, qQ, cQ, Q, N, P, hMb, hMo, he⟩ := HM.out
      have BMb := Lib.hid hMb
      have BMo := Lib.hid hMo
      have b0 : wr.cell? ⟨mb, 0, none⟩ = some (.pointer (some ⟨b, 0, none⟩)) := hMb.bm.cell 0
      have hnl := Lib.hid H.t.now_len
      have hL2 : H.t.now.length ≤ 256 := by
        rw [H.t.now_len]
        have := H.t.held_len hMo.ok.t
        have := hMo.nn
        omega
      have AL := Lib.hid (all_s _ hMb.st rfl)
      clear hMb hMo
      go_wp2_with (go_at_call 28; refine AL.out.mono ?_; rintro e w6 ⟨v, rfl, hrow, _, hb6⟩; obtain ⟨pA, cA, rfl⟩ := own_ref hrow; have HB6 := Lib.hid hb6; have ROW := Lib.hid hrow; clear hb6 hrow)
      have RA : Hid (∀ j i : Nat, H.t.held[j]? = some i → ∃ g, pA = some ⟨g, 0, none⟩ ∧ H.t.now.length ≤ cA ∧ cA ≤ 9223372036854775807 ∧ w6.cell? ⟨g, j * 2, none⟩ = some (.int .i64 i) ∧ w6.cell? ⟨g, j * 2 + 1, none⟩ = some (.int .u32 (H.t.g i))) := fun j i hj => by
        have hjl : j < H.t.now.length := by rw [H.t.now_len]; exact (List.getElem?_eq_some_iff.1 hj).1
        obtain ⟨g, e1, e2, e3, _, _, hc⟩ := row_at ROW.out rfl (by omega)
        obtain ⟨c1, c2⟩ := hc j (i, H.t.g i) (by simp [Tb.now, Tb.refs, hj])
        exact ⟨g, e1, e2, e3, c1, c2⟩
      have SX := Lib.hid (BMb.out.quiet HB6.out)
      have MX := Lib.hid (HM.out.quiet HB6.out)
      have SO : Hid (∀ i j a c : Nat, i < j → H.t.held[i]? = some a → H.t.held[j]? = some c → a < c) := fun i j a c hij ha hc => by
        obtain ⟨h1, rfl⟩ := List.getElem?_eq_some_iff.1 ha
        obtain ⟨h2, rfl⟩ := List.getElem?_eq_some_iff.1 hc
        exact List.pairwise_iff_getElem.1 (sel_sorted H.t.s 1 H.t.n) i j h1 h2 hij
      clear AL b0 ROW HM
      generalize hLn : H.t.now.length = Ln at *
      go_loopw [10] (fun v wz => ∃ y : Nat, y ≤ Ln ∧ v = .int .i64 y ∧ Hid (Below w6.heap.size w6 wz)) (fun v _ => Ln - (intOf v).toNat)
      case atStart => exact ⟨0, Nat.zero_le _, rfl, Below.refl _ _⟩
      case round =>
        obtain ⟨y, hy, rfl, HY⟩ := hrel
        obtain ⟨wz, hwz⟩ : ∃ wz, wz = wr := ⟨_, rfl⟩
        subst hwz
        by_cases hyl : y < Ln
        · obtain ⟨i, hi⟩ : ∃ i, H.t.held[y]? = some i := ⟨_, List.getElem?_eq_getElem (by have := hnl.out; omega)⟩
          obtain ⟨g, rfl, hca, hcm, hc0, hc1⟩ := RA.out y i hi
          obtain ⟨X, l, hP, RG⟩ := held_map SX.out BMo.out hi
          have hMz := SX.out.quiet HY.out
          have m1 : wz.cell? ⟨mb, 1, none⟩ = some (.map (some M)) := hMz.bm.cell 1
          have c0 := cell_stays HY.out hc0
          have c1 := cell_stays HY.out hc1
          have lk : ∀ W : World, W.heap = wz.heap → (Instr.lookup 66 (.map (some M)) (.agg #[.int .i64 (i : Nat), .int .u32 (H.t.g i : Nat)]) true).run Try.prog W = .ok (.tuple #[.slice (some ⟨X, 0, none⟩) l l, .bool true]) W := fun W hW => by
            have := (MapF.same (w' := W) hMz.mp (by rw [hW])).look_ok RG
            rw [hP] at this
            exact this
          have lk0 := lk wz rfl
          have lk1 := lk wz.drew rfl
          have lk2 : ∀ n, _ := fun n => lk (wz.drewN n) rfl
          have hwy : IntKind.i64.wrap ((y : Int) + 1) = (y : Int) + 1 := by rw [IntKind.wrap_i64]; omega
          have END : Hid (∀ m, Below w6.heap.size w6 (wz.drewN m)) := fun m => HY.out.trans ((bel_drn wz m).mono HY.out.size)
          have HI := Lib.hid hi
          clear hi hMz lk RG hc0 hc1 hP
          go_upto_region 15 with fail
          go_quiet (fail)
          clear lk0 lk1 lk2
          rcases Nat.eq_zero_or_pos y with hy0 | hy0
          · subst hy0
            go_upto_region 16 with fail
            go_quiet (fail)
            go_wp2
            go_roundw
            case rel => exact ⟨1, by omega, by go_num, END.out _⟩
            case measure => simp [intOf]; omega
          · obtain ⟨z, hz⟩ : ∃ z, y = z + 1 := ⟨y - 1, by omega⟩
            obtain ⟨i', hi'⟩ : ∃ i', H.t.held[z]? = some i' := ⟨_, List.getElem?_eq_getElem (by have := hnl.out; omega)⟩
            obtain ⟨g', e', _, _, hd0, _⟩ := RA.out z i' hi'
            obtain rfl : g = g' := by simpa using e'
            have d0 := cell_stays HY.out hd0
            have hlt := SO.out z y i' i (by omega) hi' HI.out
            have hws : IntKind.i64.wrap ((y : Int) - 1) = (z : Int) := by rw [IntKind.wrap_i64]; omega
            have hyp : (0 : Int) < (y : Int) := by omega
            have hzl : z < Ln := by omega
            have hle : decide ((i : Int) ≤ (i' : Int)) = false := by simpa using (by omega : (i' : Int) < i)
            clear hi' hd0 e' hz
            go_upto_region 16 with fail
            go_quiet (fail)
            go_wp2
            go_roundw
            case rel => exact ⟨y + 1, by omega, by go_num, END.out _⟩
            case measure => simp [intOf]; omega
        · obtain rfl : y = Ln := by omega
          have MZ := Lib.hid (MX.out.quiet HY.out)
          go_wp2_with (first
            | (go_at_call 11; refine (works_ok _).mono ?_; rintro e w8 ⟨rfl, hb8⟩; have HB8 := Lib.hid (bel_tr HM7.out.bel hb8); clear hb8)
            | (go_at_call 33; refine (agrees_ok MZ.out (by omega)).mono ?_; rintro e w7 ⟨rfl, HM7⟩))
          go_ret
          exact ⟨rfl, HB8.out⟩
end Go.Proofs.Ytfnhkapbfgofkaa
