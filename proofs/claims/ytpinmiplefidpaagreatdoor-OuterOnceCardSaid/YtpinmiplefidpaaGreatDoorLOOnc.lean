/- The walk of OuterOnce. -/
import Derived.Test.YtpinmiplefidpaaGreatDoorOnh
import Derived.Deep.Cut
import Derived.Deep.CutRange
import Derived.Deep.RegionHeld3
namespace Go.Proofs.YtpinmiplefidpaaGreatDoor
open Go.RowKit

theorem own_step {w w' : World} {A : Ad} {W : Wd} {base n : Nat} {v : Value} {xs : List Value} (h : w.ownsRow base 25 3 v n xs) (f : WW w A W) (q : WStep A w w') : w'.ownsRow base 25 3 v n xs := own_same h fun g hg => by
  rcases h.2 with ⟨rfl, _⟩ | ⟨g', cap, cur, rfl, _, h2, _⟩
  · cases hg
  · obtain rfl : g' = g := by simpa [Value.ownBlock] using hg
    have hb : Bk w g' 25 cur := h2
    exact q.k.block g' hb.lt (f.off hb)
/-- What a round of the first loop holds. -/
structure Got (w0 w : World) (A : Ad) (U : Wd) (v : Value) (n j : Nat) (G : List Ro) : Prop where
  ln : n = G.length
  le : n ≤ j
  s : WSt w0 w A U
  own : w.ownsRow w0.heap.size 25 3 v G.length (ocls G)
  h : Hist U G
theorem Got.quiet {w0 w w' : World} {A : Ad} {U : Wd} {v : Value} {n j : Nat} {G : List Ro} (h : Got w0 w A U v n j G) (q : Below w.heap.size w w') : Got w0 w' A U v n j G := ⟨h.ln, h.le, h.s.quiet q, own_below h.own q, h.h⟩
theorem len_le {l : List Ro} : ∀ {G : List Ro}, l.Pairwise (· ≠ ·) → (∀ x ∈ l, x ∈ G) → l.length ≤ G.length := by
  classical
  induction l with
  | nil => intro G _ _; exact Nat.zero_le _
  | cons a l ih =>
    intro G h hs
    obtain ⟨h1, h2⟩ := List.pairwise_cons.1 h
    have ha : a ∈ G := hs a (by simp)
    have := ih (G := G.erase a) h2 fun x hx => (List.mem_erase_of_ne (Ne.symm (h1 x hx))).2 (hs x (by simp [hx]))
    rw [List.length_erase_of_mem ha] at this
    have : 0 < G.length := List.length_pos_of_mem ha
    simp only [List.length_cons]
    omega
theorem now_ne (T : Tb) (k : Int) : (T.now.map fun r => (⟨k, (r.1 : Int), (r.2 : Int)⟩ : Ro)).Pairwise (· ≠ ·) := by
  rw [List.pairwise_map]
  unfold Tb.now Tb.refs
  rw [List.pairwise_map]
  unfold Tb.held
  refine (sel_sorted T.s 1 T.n).imp fun {a b} h e => ?_
  injection e with _ e2 _
  have : a = b := Int.ofNat_inj.1 e2
  omega
theorem Wd.Ok.all_ne {W : Wd} (_h : W.Ok) : W.all.Pairwise (· ≠ ·) := by
  have k1 : ∀ o ∈ W.F.all, o.k = 1 := fun o ho => by
    obtain ⟨r, _, rfl⟩ := List.mem_map.1 ho; rfl
  have k2 : ∀ o ∈ W.P.all, o.k = 2 := fun o ho => by
    obtain ⟨r, _, rfl⟩ := List.mem_map.1 ho; rfl
  have k3 : ∀ o ∈ W.D.all, o.k = 3 := fun o ho => by
    obtain ⟨r, _, rfl⟩ := List.mem_map.1 ho; rfl
  unfold Wd.all
  refine List.pairwise_append.2 ⟨List.pairwise_append.2 ⟨now_ne _ 1, now_ne _ 2, fun a ha b hb e => ?_⟩, now_ne _ 3, fun a ha b hb e => ?_⟩
  · have := k1 a ha; have := k2 b hb; subst e; omega
  · have q3 := k3 b hb
    rcases List.mem_append.1 ha with ha | ha
    · have := k1 a ha; subst e; omega
    · have := k2 a ha; subst e; omega
theorem Hist.all_le {U : Wd} {G : List Ro} (H : Hist U G) (h : U.Ok) : U.all.length ≤ G.length :=
  len_le h.all_ne fun o ho => H.there o (h.mem.1 (by obtain ⟨k, i, g⟩ := o; exact ho))
/-- An attempt took it. -/
def Took (B : List LG.Att) (o : Ro) : Prop := ∃ x ∈ B, oOf x = o ∧ x.n = 1
theorem took_snoc {B : List LG.Att} {r : Nat} (h : r < B.length) (o : Ro) : Took (B.take (r + 1)) o ↔ Took (B.take r) o ∨ (oOf B[r] = o ∧ B[r].n = 1) := by
  unfold Took
  rw [List.take_add_one, List.getElem?_eq_getElem h]
  simp only [Option.toList_some, List.mem_append, List.mem_singleton]
  constructor
  · rintro ⟨x, hx | rfl, h2⟩
    · exact .inl ⟨x, hx, h2⟩
    · exact .inr h2
  · rintro (⟨x, hx, h2⟩ | h2)
    · exact ⟨x, .inl hx, h2⟩
    · exact ⟨_, .inr rfl, h2⟩
set_option maxRecDepth 100000 in
set_option maxHeartbeats 8000000 in
theorem once_main (a : Option Addr) (len cap : Nat) (S : Nat → Sp) (w : World) (hl : len ≤ cap) (hm : cap ≤ 9223372036854775807) (hu : Sps w a len S) (he : OEnv w) (hs : Short len S 120) :
    Calls Tryz.prog 5 #[.slice a len cap] w fun e w' => e = .returned (.bool true) ∧ Below w.heap.size w w' := by
  have HE := Lib.hid he
  have HU := Lib.hid hu
  have HS := Lib.hid hs.2
  have SH := Lib.hid (short_yes a len cap 120 S _ hl hm (by decide) hu hs)
  have h120 := hs.1
  clear he hu hs
  go_enter Tryz.func5, Tryz.ntmps5
  go_wp2_with fail
  refine SH.out.mono ?_
  rintro e w1 ⟨rfl, b1⟩
  have B1 := Lib.hid b1
  clear b1 SH
  go_wp2_with fail
  refine (wnew_ok 1 w1 (by omega) (by omega)).mono ?_
  rintro e w0 ⟨A, rfl, hS0⟩
  have S0 : Hid (Got w w0 A (runs S 0) (.slice none 0 0) 0 0 []) := ⟨rfl, Nat.le_refl _, WSt.after B1.out hS0, World.ownsRow_nil _ _ _ _, Hist.zero⟩
  clear hS0 B1
  unfold ptr
  go_wp2_with fail
  go_loopw [5, 6] (fun u v wr => ∃ (j n c : Nat) (p : Option Addr), j ≤ len ∧ u = .slice p n c ∧ v = .int .i64 j ∧ Hid (∃ G, Got w wr A (runs S j) (.slice p n c) n j G)) (fun _ v _ => len - (intOf v).toNat)
  case atStart => exact ⟨0, 0, 0, none, Nat.zero_le _, rfl, rfl, [], S0.out⟩
  case round =>
    clear S0
    obtain ⟨j, n, c, p, hj, rfl, rfl, HI⟩ := hrel
    obtain ⟨G, hG⟩ := HI.out
    have HG := Lib.hid hG
    have hn1 : n ≤ 120 := by have := hG.le; omega
    clear HI hG
    by_cases hlt : j < len
    · obtain ⟨b, off, rfl, hb, hc⟩ := (HU.out.below HG.out.s.bel).at_ (by omega)
      have hok := HU.out.bd j hlt
      have ht := HS.out j hlt
      have hrun : runs S (j + 1) = (runs S j).does (S j) := rfl
      have NC : Hid (∀ W, Below w.heap.size w W → W.cell? ⟨b, off + j * 9, none⟩ = some (.int .i64 (S j).d) ∧ W.cell? ⟨b, off + j * 9 + 1, none⟩ = some (.int .i64 (S j).k) ∧ W.cell? ⟨b, off + j * 9 + 2, none⟩ = some (.int .i64 (S j).a) ∧ W.cell? ⟨b, off + j * 9 + 3, none⟩ = some (.int .i64 (S j).o.k) ∧ W.cell? ⟨b, off + j * 9 + 4, none⟩ = some (.int .i64 (S j).o.i) ∧ W.cell? ⟨b, off + j * 9 + 5, none⟩ = some (.int .u32 (S j).o.g) ∧ W.cell? ⟨b, off + j * 9 + 6, none⟩ = some (.int .i64 (S j).y) ∧ W.cell? ⟨b, off + j * 9 + 7, none⟩ = some (.int .i64 (S j).x) ∧ W.cell? ⟨b, off + j * 9 + 8, none⟩ = some (.string (S j).t)) := fun W hW => by
        obtain ⟨b', off', e, _, hc'⟩ := (HU.out.below hW).at_ (by omega)
        cases e
        exact hc' j hlt
      clear hc
      have hKd : (runs S j).dB (S j) = true → Hist (runs S (j + 1)) (G ++ [⟨(runs S j).dK (S j), (runs S j).dI (S j), (runs S j).dG (S j)⟩]) ∧ (⟨(runs S j).dK (S j), (runs S j).dI (S j), (runs S j).dG (S j)⟩ : Ro) ∉ G ∧ (runs S (j + 1)).Here ((runs S j).dK (S j)) ((runs S j).dI (S j)) ((runs S j).dG (S j)) ∧ (runs S j).dK (S j) = (S j).k := by
        intro e
        unfold Wd.dB at e
        obtain ⟨e1, e2⟩ := of_decide_eq_true e
        rw [hrun]
        unfold Wd.dK Wd.dI Wd.dG Wd.does
        rw [if_pos e1, if_pos e1, if_pos e1, if_pos e1]
        have hU := HG.out.s.f.ok
        exact ⟨HG.out.h.acq hU e2, HG.out.h.new hU e2, hU.acq_here e2, by obtain ⟨_, _, _, _, _, z, _⟩ := hU.acquired e2; exact z⟩
      have hNo : (runs S j).dB (S j) = false → (runs S (j + 1)).Ok → Hist (runs S (j + 1)) G := fun e hV => HG.out.h.does HG.out.s.f.ok (S j) hV e
      generalize S j = s at *
      obtain ⟨d, k, ar, ⟨K, I, g⟩, y, x, t⟩ := s
      obtain ⟨c0, c1, c2, c3, c4, c5, c6, c7, c8⟩ := NC.out _ HG.out.s.bel
      dsimp only at c0 c1 c2 c3 c4 c5 c6 c7 c8 ht NC hKd hNo
      have DB := Lib.hid (do_s d k ar K I g y x t HE.out HG.out.s hok ht)
      rw [← hrun] at DB
      clear hrun
      obtain ⟨K1, hK1⟩ : ∃ v, (runs S j).dK ⟨d, k, ar, ⟨K, I, g⟩, y, x, t⟩ = v := ⟨_, rfl⟩
      obtain ⟨I1, hI1⟩ : ∃ v, (runs S j).dI ⟨d, k, ar, ⟨K, I, g⟩, y, x, t⟩ = v := ⟨_, rfl⟩
      obtain ⟨G1, hG1⟩ : ∃ v, (runs S j).dG ⟨d, k, ar, ⟨K, I, g⟩, y, x, t⟩ = v := ⟨_, rfl⟩
      obtain ⟨bb, hbb⟩ : ∃ v, (runs S j).dB ⟨d, k, ar, ⟨K, I, g⟩, y, x, t⟩ = v := ⟨_, rfl⟩
      rw [hK1, hI1, hG1, hbb] at DB hKd
      rw [hbb] at hNo
      have HKD := Lib.hid hKd
      have HNO := Lib.hid hNo
      clear hKd hNo hK1 hI1 hG1 hbb hok ht
      obtain ⟨V, hV⟩ : ∃ V, runs S (j + 1) = V := ⟨_, rfl⟩
      have HV := Lib.hid hV
      rw [hV] at DB HKD HNO
      clear hV
      go_wp2_with fail
      refine DB.out.mono ?_
      rintro e v1 ⟨rfl, hS, hT⟩
      have q := bel_new v1 (.cells #[.int .i64 K1, .int .i64 I1, .int .u32 G1] 25)
      have W1 := Lib.hid (hS.out.quiet q)
      have O1 := Lib.hid (own_below (own_step HG.out.own HG.out.s.f hT.out) q)
      have X1 := Lib.hid (Bk.new v1 25 #[.int .i64 K1, .int .i64 I1, .int .u32 G1])
      have LN := Lib.hid (And.intro HG.out.ln HG.out.le)
      clear hS hT q DB HG c0 c1 c2 c3 c4 c5 c6 c7 c8
      go_upto_region 11 with fail
      generalize v1.alloc (.cells #[.int .i64 K1, .int .i64 I1, .int .u32 G1] 25) = v2 at *
      generalize v1.heap.size = xb at *
      cases bb with
      | false =>
        have E1 : Hid (∃ G, Got w v2 A (runs S (j + 1)) (.slice p n c) n (j + 1) G) := ⟨G, LN.out.1, Nat.le_succ_of_le LN.out.2, by rw [HV.out]; exact W1.out, O1.out, by rw [HV.out]; exact HNO.out rfl W1.out.f.ok⟩
        clear HKD HNO NC O1 W1 X1 LN HV
        go_wp2
        go_roundw
        case rel => exact ⟨j + 1, n, c, p, by omega, rfl, by go_num, E1.out⟩
        case measure => simp [intOf]; omega
      | true =>
        obtain ⟨hH, hnew, hHere, hKk⟩ := HKD.out rfl
        subst hKk
        have HH := Lib.hid hH
        have HNEW := Lib.hid hnew
        have HHE := Lib.hid hHere
        clear HKD HNO hH hnew hHere
        go_wp2_with fail
        go_loopw [9] (fun v wr => ∃ q : Nat, q ≤ n ∧ v = .int .i64 q ∧ Hid (Below v2.heap.size v2 wr)) (fun v _ => n - (intOf v).toNat)
        case atStart => exact ⟨0, Nat.zero_le _, rfl, Below.refl _ _⟩
        case round =>
          obtain ⟨q, hq, rfl, HB⟩ := hrel
          by_cases hlq : q < n
          · have hqG : q < G.length := by rw [← LN.out.1]; exact hlq
            obtain ⟨g1, o1, rfl, hg1, t0, t1, t2⟩ := ((RdO.of_own O1.out).below HB.out).cell hqG
            obtain ⟨u0, u1, u2⟩ := LS.cells3 (X1.out.below HB.out)
            have hne : G[q] ≠ ⟨K1, I1, G1⟩ := fun e => HNEW.out (e ▸ List.getElem_mem hqG)
            generalize G[q] = xq at *
            obtain ⟨k', i', g'⟩ := xq
            dsimp only at t0 t1 t2
            have HNE := Lib.hid hne
            clear hqG hne
            by_cases e0 : k' = K1
            · subst e0
              by_cases e1 : i' = I1
              · subst e1
                by_cases e2 : g' = G1
                · subst e2; exact absurd rfl HNE.out
                · have d2 : (g' == G1) = false := beq_eq_false_iff_ne.2 e2
                  clear e2 HNE
                  go_wp2_with fail
                  go_quiet (fail)
                  go_wp2
                  go_roundw
                  case rel => exact ⟨q + 1, by omega, by go_num, bel_drewN HB.out _⟩
                  case measure => simp [intOf]; omega
              · have d2 : (i' == I1) = false := beq_eq_false_iff_ne.2 e1
                clear e1 HNE
                go_wp2_with fail
                go_quiet (fail)
                go_wp2
                go_roundw
                case rel => exact ⟨q + 1, by omega, by go_num, bel_drewN HB.out _⟩
                case measure => simp [intOf]; omega
            · have d2 : (k' == K1) = false := beq_eq_false_iff_ne.2 e0
              clear e0 HNE
              go_wp2_with fail
              go_quiet (fail)
              go_wp2
              go_roundw
              case rel => exact ⟨q + 1, by omega, by go_num, bel_drewN HB.out _⟩
              case measure => simp [intOf]; omega
          · obtain rfl : q = n := by omega
            clear hq hlq
            have W2 := Lib.hid (W1.out.quiet HB.out)
            have X2 := Lib.hid (X1.out.below HB.out)
            have O2 := Lib.hid (own_below O1.out HB.out)
            have hP := W2.out.f.ok.poss HHE.out
            have hgm := W2.out.f.ok.gen HHE.out
            have PE0 : Hid (pE K1 I1 G1 = 0) := if_pos hP
            have RO1 : Hid (RgO K1 I1 G1) := by
              obtain ⟨b1, b2, b3, b4, b5⟩ := hP
              exact ⟨by omega, by omega, by omega, by omega, by omega, hgm⟩
            clear hP hgm W1 X1 O1
            have FX : Hid (∀ W, Below wr.heap.size wr W → W.cell? ⟨xb, 0, none⟩ = some (.int .i64 K1) ∧ W.cell? ⟨xb, 1, none⟩ = some (.int .i64 I1) ∧ W.cell? ⟨xb, 2, none⟩ = some (.int .u32 G1) ∧ W.cell? ⟨b, off + j * 9 + 1, none⟩ = some (.int .i64 K1)) := fun W hW => by
              obtain ⟨x0, x1, x2⟩ := LS.cells3 (X2.out.below hW)
              exact ⟨x0, x1, x2, (NC.out _ (bel2 W2.out.bel hW)).2.1⟩
            have D1 := Lib.hid (bel_drew (Below.refl wr.heap.size wr))
            have hj0 : (0 : Int) ≤ (j : Int) := by omega
            have hj1 : (j : Int) < (len : Int) := by omega
            go_upto_region 17 with fail
            go_cut [78] from 60 to 78 (fun v wx => v = .bool false ∧ Hid (Below wr.heap.size wr wx))
            case first =>
              go_region_held3 (fun W => W.cell? ⟨xb, 0, none⟩ = some (.int .i64 K1) ∧ W.cell? ⟨xb, 1, none⟩ = some (.int .i64 I1) ∧ W.cell? ⟨xb, 2, none⟩ = some (.int .u32 G1) ∧ W.cell? ⟨b, off + j * 9 + 1, none⟩ = some (.int .i64 K1)) (first | (with_reducible exact hz8) | (with_reducible exact hz7) | (with_reducible exact FX.out _ D1.out)) (first
                | (go_at_call 43; refine (ochk_is K1 I1 G1 RO1.out _).mono ?_; rw [PE0.out]; rintro e w7 ⟨rfl, hb7⟩; have hz7 := FX.out _ (bel2 D1.out hb7); have D7 := Lib.hid (bel2 D1.out hb7); clear hb7)
                | (go_at_call 30; refine (has_s K1 I1 G1 true (W2.out.quiet D7.out) (by simpa using HHE.out)).mono ?_; rintro e w8 ⟨rfl, hS8, hb8⟩; have hz8 := FX.out _ (bel2 D7.out hb8.out); have D8 := Lib.hid (bel2 D7.out hb8.out); clear hb8 hS8))
              all_goals
                go_wp2
                go_meet
                exact ⟨by first | rfl | simp, D8.out⟩
            case rest =>
              obtain ⟨rfl, HB3⟩ := hcut
              have W3 := Lib.hid (W2.out.quiet HB3.out)
              have X3 := Lib.hid (X2.out.below HB3.out)
              have O3 := Lib.hid (own_below O2.out HB3.out)
              clear FX D1 W2 X2 O2 HB3 HB PE0 RO1 NC
              obtain ⟨x0, x1, x2⟩ := LS.cells3 X3.out
              have q4 := bel_new wc (.cells #[.int .i64 K1, .int .i64 I1, .int .u32 G1] 25)
              have NB := Lib.hid (Bk.new wc 25 #[.int .i64 K1, .int .i64 I1, .int .u32 G1])
              have W4 := Lib.hid (W3.out.quiet q4)
              have O4 := Lib.hid (own_below O3.out q4)
              have hg1000 : G.length ≤ 1000 := by have := LN.out.1; omega
              clear q4 W3 O3 X3
              go_wp2_with (at_builtin; refine FD.wpList_app_o rfl _ _ rfl ⟨K1, I1, G1⟩ rfl rfl LN.out.1.symm O4.out NB.out hg1000 W4.out.bel.size ?_)
              intro p2 c2 w8 HA
              have E1 : Hid (∃ G, Got w w8 A (runs S (j + 1)) (.slice p2 (q + 1) c2) (q + 1) (j + 1) G) := by
                obtain ⟨h1, h2⟩ := HA.out
                have hoff : ∀ z, WFoot (wc.alloc (.cells #[.int .i64 K1, .int .i64 I1, .int .u32 G1] 25)) A z → ¬ Value.ownBlock (.slice p q c) = some z := by
                  intro z hz e
                  rcases O4.out.2 with ⟨h3, _⟩ | ⟨g', cap', cur, h3, _, h4, _⟩
                  · rw [h3] at e; cases e
                  · rw [h3] at e
                    obtain rfl : g' = z := by simpa [Value.ownBlock] using e
                    have hb : Bk _ g' 25 cur := h4
                    exact absurd hz (W4.out.f.off hb)
                obtain ⟨k1, k2⟩ := W4.out.f.kept h2 hoff
                refine ⟨G ++ [⟨K1, I1, G1⟩], ?_, Nat.succ_le_succ LN.out.2, ?_, h1, ?_⟩
                · rw [List.length_append, ← LN.out.1]; rfl
                · rw [HV.out]
                  exact ⟨k1, W4.out.bel.trans (h2.below W4.out.bel.size fun z e => (O4.out.lt z e).1), fun z hz => W4.out.lo z ((k2 z).1 hz)⟩
                · rw [HV.out]; exact HH.out
              clear HA O4 W4 NB LN HV HH HNEW HHE
              go_wp2
              go_roundw
              case rel => exact ⟨j + 1, q + 1, c2, p2, by omega, rfl, by go_num, E1.out⟩
              case measure => simp [intOf]; omega
    · obtain rfl : j = len := by omega
      obtain ⟨U, hU⟩ : ∃ U, runs S j = U := ⟨_, rfl⟩
      have hmB : U.B.length ≤ 120 := by rw [← hU]; have := runs_B S j; omega
      rw [hU] at HG
      clear hU
      obtain ⟨m, hm'⟩ : ∃ m, U.B.length = m := ⟨_, rfl⟩
      have HM := Lib.hid hm'
      rw [hm'] at hmB
      clear hm' hlt hj
      go_wp2_with fail
      refine (ledger_s U.B HG.out.s rfl).mono ?_
      rintro e v2 ⟨lb, bk, rfl, hL, hS, hb⟩
      have G2 := Lib.hid (HG.out.quiet hb.out)
      have L2 := Lib.hid hL.out
      clear hL hS hb HG
      go_wp2_with fail
      refine (alls_s _ _ _ L2.out G2.out.s).mono ?_
      rw [HM.out]
      rintro e v3 ⟨p', c', rfl, hR, hS, hb⟩
      have G3 := Lib.hid (G2.out.quiet hb.out)
      have Q3 := Lib.hid hR.out.rd
      clear hR hS hb G2 L2
      go_upto_region 22 with fail
      go_loopw [11] (fun v wr => ∃ q : Nat, q ≤ m ∧ v = .int .i64 q ∧ Hid (Below v3.heap.size v3 wr)) (fun v _ => m - (intOf v).toNat)
      case atStart => exact ⟨0, Nat.zero_le _, rfl, Below.refl _ _⟩
      case round =>
        obtain ⟨q, hq, rfl, HB⟩ := hrel
        by_cases hlq : q < m
        · go_wp2_with fail
          go_loopw [12] (fun v wr => ∃ r : Nat, r ≤ q ∧ v = .int .i64 r ∧ Hid (Below v3.heap.size v3 wr)) (fun v _ => q - (intOf v).toNat)
          case atStart => exact ⟨0, Nat.zero_le _, rfl, HB.out⟩
          case round =>
            clear HB
            obtain ⟨r, hr, rfl, HB⟩ := hrel
            have hqB : q < U.B.length := by rw [HM.out]; exact hlq
            by_cases hlr : r < q
            · have hrB : r < U.B.length := by omega
              obtain ⟨g1, o1, rfl, hg1, t0, t1, t2, t3, t4, t5⟩ := (Q3.out.below HB.out).cell hqB
              obtain ⟨g2, o2, e2, hg2, u0, u1, u2, u3, u4, u5⟩ := (Q3.out.below HB.out).cell hrB
              cases e2
              have hon := List.pairwise_iff_getElem.1 G3.out.h.once r q hrB hqB hlr
              generalize U.B[q] = xq at *
              generalize U.B[r] = xr at *
              obtain ⟨a0, a1, a2, a3, a4, a5⟩ := xq
              obtain ⟨b0, b1, b2, b3, b4, b5⟩ := xr
              dsimp only at t0 t1 t2 t3 t4 t5 u0 u1 u2 u3 u4 u5 hon
              have HON := Lib.hid hon
              have hr0 : (0 : Int) ≤ (r : Int) := by omega
              have hr1 : (r : Int) < (m : Int) := by omega
              have hq0 : (0 : Int) ≤ (q : Int) := by omega
              have hq1 : (q : Int) < (m : Int) := by omega
              clear hqB hrB hon
              by_cases e0 : b1 = a1
              · subst e0
                by_cases e1 : b2 = a2
                · subst e1
                  by_cases e3 : b3 = a3
                  · subst e3
                    have hn1 : b5 ≠ 1 := HON.out rfl
                    have d2 : (b5 == 1) = false := beq_eq_false_iff_ne.2 hn1
                    clear hn1 HON
                    go_wp2_with fail
                    go_quiet (fail)
                    go_wp2
                    go_roundw
                    case rel => exact ⟨r + 1, by omega, by go_num, bel_drewN HB.out _⟩
                    case measure => simp [intOf]; omega
                  · have d2 : (b3 == a3) = false := beq_eq_false_iff_ne.2 e3
                    clear e3 HON
                    go_wp2_with fail
                    go_quiet (fail)
                    go_wp2
                    go_roundw
                    case rel => exact ⟨r + 1, by omega, by go_num, bel_drewN HB.out _⟩
                    case measure => simp [intOf]; omega
                · have d2 : (b2 == a2) = false := beq_eq_false_iff_ne.2 e1
                  clear e1 HON
                  go_wp2_with fail
                  go_quiet (fail)
                  go_wp2
                  go_roundw
                  case rel => exact ⟨r + 1, by omega, by go_num, bel_drewN HB.out _⟩
                  case measure => simp [intOf]; omega
              · have d2 : (b1 == a1) = false := beq_eq_false_iff_ne.2 e0
                clear e0 HON
                go_wp2_with fail
                go_quiet (fail)
                go_wp2
                go_roundw
                case rel => exact ⟨r + 1, by omega, by go_num, bel_drewN HB.out _⟩
                case measure => simp [intOf]; omega
            · obtain rfl : r = q := by omega
              obtain ⟨g1, o1, rfl, hg1, t0, t1, t2, t3, t4, t5⟩ := (Q3.out.below HB.out).cell hqB
              have hdone := G3.out.h.done _ (List.getElem_mem hqB)
              have hrg := (G3.out.s.f.ok.B _ (List.getElem_mem hqB)).rg
              generalize U.B[r] = xq at *
              obtain ⟨a0, a1, a2, a3, a4, a5⟩ := xq
              dsimp only at t0 t1 t2 t3 t4 t5 hdone
              have HD := Lib.hid hdone
              have W4 := Lib.hid (G3.out.s.quiet HB.out)
              have B4 := Lib.hid HB.out
              have hr0 : (0 : Int) ≤ (r : Int) := by omega
              have hr1 : (r : Int) < (m : Int) := by omega
              clear hdone hqB hrg HB hlr
              by_cases hn1 : a5 = 1
              · subst hn1
                have hno := HD.out rfl
                have HNO := Lib.hid hno
                clear hno HD
                go_wp2_with fail
                refine (has_s a1 a2 a3 false W4.out (by simpa using HNO.out)).mono ?_
                rintro e v4 ⟨rfl, hS, hb⟩
                have B5 := Lib.hid (bel2 B4.out hb.out)
                clear hS hb
                go_wp2
                go_roundw
                case rel => exact ⟨r + 1, by omega, by go_num, B5.out⟩
                case measure => simp [intOf]; omega
              · have d2 : (a5 == 1) = false := beq_eq_false_iff_ne.2 hn1
                clear hn1 HD
                go_wp2
                go_roundw
                case rel => exact ⟨r + 1, by omega, by go_num, B4.out⟩
                case measure => simp [intOf]; omega
        · obtain rfl : q = m := by omega
          have G4 := Lib.hid (G3.out.quiet HB.out)
          have Q4 := Lib.hid (Q3.out.below HB.out)
          clear HB G3 Q3 hq hlq
          go_wp2_with fail
          refine (all_s U.all G4.out.s rfl).mono ?_
          rintro e v5 ⟨p5, c5, rfl, hR, hS, hb⟩
          have G5 := Lib.hid (G4.out.quiet hb.out)
          have Q5 := Lib.hid (Q4.out.below hb.out)
          clear hR hS hb G4 Q4
          go_upto_region 33 with fail
          have hAL := G5.out.h.all_le G5.out.s.f.ok
          have HAL := Lib.hid hAL
          obtain ⟨tn, htn⟩ : ∃ tn, U.all.length = tn := ⟨_, rfl⟩
          rw [htn] at HAL hAL ⊢
          have htle : tn ≤ n := by have := G5.out.ln; omega
          clear hAL htn
          go_loopw [14] (fun v wr => ∃ i : Nat, i ≤ n ∧ v = .int .i64 i ∧ Hid (Below v5.heap.size v5 wr)) (fun v _ => n - (intOf v).toNat)
          case atStart => exact ⟨0, Nat.zero_le _, rfl, Below.refl _ _⟩
          case round =>
            obtain ⟨i, hi, rfl, HB⟩ := hrel
            by_cases hli : i < n
            · have hiG : i < G.length := by have := G5.out.ln; omega
              go_wp2_with fail
              go_loopw [15, 16] (fun u v wr => ∃ (r : Nat) (gb : Bool), r ≤ q ∧ u = .bool gb ∧ v = .int .i64 r ∧ Hid (gb = true ↔ Took (U.B.take r) G[i]) ∧ Hid (Below v5.heap.size v5 wr)) (fun _ v _ => q - (intOf v).toNat)
              case atStart => exact ⟨0, false, Nat.zero_le _, rfl, rfl, by unfold Hid Took; simp, HB.out⟩
              case round =>
                obtain ⟨r, gb, hr, rfl, rfl, HT, HC⟩ := hrel
                by_cases hlr : r < q
                · have hrB : r < U.B.length := by rw [HM.out]; exact hlr
                  have NX : Hid (∀ b : Bool, (b = true ↔ (gb = true ∨ (oOf U.B[r] = G[i] ∧ U.B[r].n = 1))) → Hid (b = true ↔ Took (U.B.take (r + 1)) G[i])) := fun b hb => by
                    unfold Hid
                    rw [took_snoc hrB, ← HT.out, hb]
                  obtain ⟨g1, o1, rfl, hg1, t0, t1, t2, t3, t4, t5⟩ := (Q5.out.below HC.out).cell hrB
                  obtain ⟨g2, o2, rfl, hg2, u0, u1, u2⟩ := ((RdO.of_own G5.out.own).below HC.out).cell hiG
                  generalize U.B[r] = xr at *
                  obtain ⟨o, ho⟩ : ∃ o, G[i] = o := ⟨_, rfl⟩
                  rw [ho] at u0 u1 u2 NX
                  obtain ⟨b1, b2, b3⟩ := o
                  obtain ⟨a0, a1, a2, a3, a4, a5⟩ := xr
                  dsimp only at t0 t1 t2 t3 t4 t5 u0 u1 u2 NX
                  have hr0 : (0 : Int) ≤ (r : Int) := by omega
                  have hr1 : (r : Int) < (q : Int) := by omega
                  have hi0 : (0 : Int) ≤ (i : Int) := by omega
                  have hi1 : (i : Int) < (n : Int) := by omega
                  have HO := Lib.hid ho
                  clear hrB HT ho
                  cases gb with
                  | true =>
                    go_wp2_with fail
                    go_quiet (fail)
                    go_wp2
                    go_roundw
                    case rel => exact ⟨r + 1, true, by omega, rfl, by go_num, (by rw [HO.out]; exact NX.out true (by simp)), bel_drewN HC.out _⟩
                    case measure => simp [intOf]; omega
                  | false =>
                    by_cases e0 : a1 = b1
                    · subst e0
                      by_cases e1 : a2 = b2
                      · subst e1
                        by_cases e3 : a3 = b3
                        · subst e3
                          by_cases e4 : a5 = 1
                          · subst e4
                            go_wp2_with fail
                            go_quiet (fail)
                            go_wp2
                            go_roundw
                            case rel => exact ⟨r + 1, true, by omega, rfl, by go_num, (by rw [HO.out]; exact NX.out true (by simp [oOf])), bel_drewN HC.out _⟩
                            case measure => simp [intOf]; omega
                          · have d2 : (a5 == 1) = false := beq_eq_false_iff_ne.2 e4
                            have NF := Lib.hid (NX.out false (by simp [e4]))
                            clear e4 NX
                            go_wp2_with fail
                            go_quiet (fail)
                            go_wp2
                            go_roundw
                            case rel => exact ⟨r + 1, false, by omega, rfl, by go_num, (by rw [HO.out]; exact NF.out), bel_drewN HC.out _⟩
                            case measure => simp [intOf]; omega
                        · have d2 : (a3 == b3) = false := beq_eq_false_iff_ne.2 e3
                          have NF := Lib.hid (NX.out false (by simp [oOf, e3]))
                          clear e3 NX
                          go_wp2_with fail
                          go_quiet (fail)
                          go_wp2
                          go_roundw
                          case rel => exact ⟨r + 1, false, by omega, rfl, by go_num, (by rw [HO.out]; exact NF.out), bel_drewN HC.out _⟩
                          case measure => simp [intOf]; omega
                      · have d2 : (a2 == b2) = false := beq_eq_false_iff_ne.2 e1
                        have NF := Lib.hid (NX.out false (by simp [oOf, e1]))
                        clear e1 NX
                        go_wp2_with fail
                        go_quiet (fail)
                        go_wp2
                        go_roundw
                        case rel => exact ⟨r + 1, false, by omega, rfl, by go_num, (by rw [HO.out]; exact NF.out), bel_drewN HC.out _⟩
                        case measure => simp [intOf]; omega
                    · have d2 : (a1 == b1) = false := beq_eq_false_iff_ne.2 e0
                      have NF := Lib.hid (NX.out false (by simp [oOf, e0]))
                      clear e0 NX
                      go_wp2_with fail
                      go_quiet (fail)
                      go_wp2
                      go_roundw
                      case rel => exact ⟨r + 1, false, by omega, rfl, by go_num, (by rw [HO.out]; exact NF.out), bel_drewN HC.out _⟩
                      case measure => simp [intOf]; omega
                · obtain rfl : r = q := by omega
                  have hT := HT.out
                  rw [show U.B.take r = U.B from List.take_of_length_le (by rw [HM.out]; exact Nat.le_refl _)] at hT
                  have hH := G5.out.h.iff (List.getElem_mem hiG)
                  have W6 := Lib.hid (G5.out.s.quiet HC.out)
                  obtain ⟨g2, o2, rfl, hg2, u0, u1, u2⟩ := ((RdO.of_own G5.out.own).below HC.out).cell hiG
                  generalize G[i] = o at *
                  obtain ⟨b1, b2, b3⟩ := o
                  dsimp only at u0 u1 u2 hH
                  have hr : (!gb) = true ↔ U.Here b1 b2 b3 := by
                    rw [hH]
                    unfold Took at hT
                    rw [← hT]
                    cases gb <;> simp
                  have HR := Lib.hid hr
                  have hi0 : (0 : Int) ≤ (i : Int) := by omega
                  have hi1 : (i : Int) < (n : Int) := by omega
                  have C5 := Lib.hid HC.out
                  clear hT hH HT hr HC hlr
                  cases gb with
                  | true =>
                    go_wp2_with fail
                    refine (has_s b1 b2 b3 false W6.out HR.out).mono ?_
                    rintro e v7 ⟨rfl, hS, hb⟩
                    have B8 := Lib.hid (bel2 C5.out hb.out)
                    clear hS hb
                    go_wp2
                    go_roundw
                    case rel => exact ⟨i + 1, by omega, by go_num, B8.out⟩
                    case measure => simp [intOf]; omega
                  | false =>
                    go_wp2_with fail
                    refine (has_s b1 b2 b3 true W6.out HR.out).mono ?_
                    rintro e v7 ⟨rfl, hS, hb⟩
                    have B8 := Lib.hid (bel2 C5.out hb.out)
                    clear hS hb
                    go_wp2
                    go_roundw
                    case rel => exact ⟨i + 1, by omega, by go_num, B8.out⟩
                    case measure => simp [intOf]; omega
            · obtain rfl : i = n := by omega
              have B7 := Lib.hid (bel2 G5.out.s.bel HB.out)
              have htn1 : (tn : Int) ≤ (i : Int) := by omega
              go_wp2_with fail
              refine (works_ok _ (HE.out.below B7.out)).mono ?_
              rintro e v9 ⟨rfl, hb⟩
              have B8 := Lib.hid (bel2 B7.out hb)
              clear hb
              go_wp2
              go_ret
              exact ⟨rfl, B8.out⟩
set_option maxRecDepth 100000 in
set_option maxHeartbeats 2000000 in
theorem oOnc_walk (a : Option Addr) (len cap : Nat) (S : Nat → Sp) (w : World) (hl : len ≤ cap) (hm : cap ≤ 9223372036854775807) (hu : Sps w a len S) (he : OEnv w) :
    Calls Tryz.prog 5 #[.slice a len cap] w fun e w' => e = .returned (.bool true) ∧ Below w.heap.size w w' := by
  by_cases hs : Short len S 120
  · exact once_main a len cap S w hl hm hu he hs
  · have SH := Lib.hid (short_no a len cap 120 S _ hl hm (by decide) hu hs)
    have HE := Lib.hid he
    clear he hu hs
    go_enter Tryz.func5, Tryz.ntmps5
    go_wp2_with fail
    refine SH.out.mono ?_
    rintro e w1 ⟨rfl, b1⟩
    have B2 := Lib.hid b1
    clear b1 SH
    go_wp2_with fail
    refine (works_ok _ (HE.out.below B2.out)).mono ?_
    rintro e v ⟨rfl, hb⟩
    have B7 := Lib.hid (bel2 B2.out hb)
    clear hb
    go_wp2
    go_ret
    exact ⟨rfl, B7.out⟩
end Go.Proofs.YtpinmiplefidpaaGreatDoor
