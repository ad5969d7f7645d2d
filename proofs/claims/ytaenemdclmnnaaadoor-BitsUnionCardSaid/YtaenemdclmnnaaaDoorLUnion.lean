/- The walk of the statement BitsUnion: it returns true for all sizes and lists. -/
import Derived.Test.YtaenemdclmnnaaaDoorLSets
namespace Go.Proofs.YtaenemdclmnnaaaDoor
open Go.RowKit

def an (f h : Nat → Bool) : Nat → Bool := fun k => f k && h k
theorem len_un (f h : Nat → Bool) : ∀ n, (lst (un f h) n).length + (lst (an f h) n).length = (lst f n).length + (lst h n).length
  | 0 => by simp [lst]
  | n + 1 => by
    have := len_un f h n
    rw [lst_snoc, lst_snoc, lst_snoc, lst_snoc]
    simp only [List.length_append]
    unfold un an at *
    cases f n <;> cases h n <;> simp at * <;> omega
theorem len_mi (f h : Nat → Bool) : ∀ n, (lst (mi f h) n).length + (lst (an f h) n).length = (lst f n).length
  | 0 => by simp [lst]
  | n + 1 => by
    have := len_mi f h n
    rw [lst_snoc, lst_snoc, lst_snoc]
    simp only [List.length_append]
    unfold mi an at *
    cases f n <;> cases h n <;> simp at * <;> omega
theorem mi_un (f h : Nat → Bool) : mi (un f h) h = mi f h := by
  funext k; unfold mi un; cases f k <;> cases h k <;> rfl
theorem un_self (f : Nat → Bool) : un f f = f := by funext k; simp [un]
theorem mi_self (f : Nat → Bool) : mi f f = fun _ => false := by funext k; simp [mi]
/-- c below k, f from there on. -/
def mixk (c f : Nat → Bool) (k : Nat) : Nat → Bool := fun q => if q < k then c q else f q
theorem mixk_zero (c f : Nat → Bool) : mixk c f 0 = f := by funext q; simp [mixk]
theorem mixk_succ (c f : Nat → Bool) (k : Nat) : upd (mixk c f k) k (c k) = mixk c f (k + 1) := by
  funext q
  unfold upd mixk
  by_cases h : q = k
  · subst h; rw [if_pos rfl, if_pos (by omega)]
  · rw [if_neg h]
    by_cases h2 : q < k
    · rw [if_pos h2, if_pos (by omega)]
    · rw [if_neg h2, if_neg (by omega)]
theorem mixk_at (c f : Nat → Bool) (k : Nat) : mixk c f k k = f k := by simp [mixk]

structure USt (w0 w : World) (b1 g1 h1 b2 g2 h2 b3 g3 b4 g4 h5 h6 n : Nat) (f h fc fd p q : Nat → Bool) : Prop where
  s : SetW w b1 g1 n f
  a : Bl w h1 n f
  t : SetW w b2 g2 n h
  bb : Bl w h2 n h
  c : SetW w b3 g3 n fc
  d : SetW w b4 g4 n fd
  p : Bl w h5 n p
  q : Bl w h6 n q
  tab : Tab w
  bel : Below w0.heap.size w0 w
  x0 : (0 : Nat) < w0.heap.size
  x1 : w0.heap.size ≤ b1 ∧ w0.heap.size ≤ g1
  x2 : b1 < h1 ∧ g1 < h1
  x3 : h1 < b2 ∧ h1 < g2
  x4 : b2 < h2 ∧ g2 < h2
  x5 : h2 < b3 ∧ h2 < g3
  x6 : b3 < b4 ∧ b3 < g4 ∧ g3 < b4 ∧ g3 < g4
  x7 : b4 < h5 ∧ g4 < h5 ∧ b3 < h5 ∧ g3 < h5
  x8 : h5 < h6
section
variable {w0 w w' : World} {b1 g1 h1 b2 g2 h2 b3 g3 b4 g4 h5 h6 n j : Nat} {f h fc fc' fd p q : Nat → Bool}
theorem USt.quiet (a : USt w0 w b1 g1 h1 b2 g2 h2 b3 g3 b4 g4 h5 h6 n f h fc fd p q) (k : Below w.heap.size w w') : USt w0 w' b1 g1 h1 b2 g2 h2 b3 g3 b4 g4 h5 h6 n f h fc fd p q :=
  ⟨a.s.below k, a.a.below k, a.t.below k, a.bb.below k, a.c.below k, a.d.below k, a.p.below k, a.q.below k, a.tab.below k, a.bel.trans (k.mono a.bel.size), a.x0, a.x1, a.x2, a.x3, a.x4, a.x5, a.x6, a.x7, a.x8⟩
theorem USt.kp (a : USt w0 w b1 g1 h1 b2 g2 h2 b3 g3 b4 g4 h5 h6 n f h fc fd p q) (hj : j < n) (v : Bool) : USt w0 (w.setCell ⟨h5, j, none⟩ (.bool v)) b1 g1 h1 b2 g2 h2 b3 g3 b4 g4 h5 h6 n f h fc fd (upd p j v) q := by
  have k : Kept (· = h5) w (w.setCell ⟨h5, j, none⟩ (.bool v)) := (Kept.refl (· = h5) w).put1 j _
  have ⟨x0, x1, x2, x3, x4, x5, x6, x7, x8⟩ := And.intro a.x0 (And.intro a.x1 (And.intro a.x2 (And.intro a.x3 (And.intro a.x4 (And.intro a.x5 (And.intro a.x6 (And.intro a.x7 a.x8)))))))
  exact ⟨a.s.kept k (by omega) (by omega), a.a.kept k (by omega), a.t.kept k (by omega) (by omega), a.bb.kept k (by omega), a.c.kept k (by omega) (by omega), a.d.kept k (by omega) (by omega), a.p.put hj v, a.q.kept k (by omega), a.tab.same (k.block _ a.tab.lt (by omega)), a.bel.trans (kept_below k a.bel.size (by omega)), x0, x1, x2, x3, x4, x5, x6, x7, x8⟩
theorem USt.kq (a : USt w0 w b1 g1 h1 b2 g2 h2 b3 g3 b4 g4 h5 h6 n f h fc fd p q) (hj : j < n) (v : Bool) : USt w0 (w.setCell ⟨h6, j, none⟩ (.bool v)) b1 g1 h1 b2 g2 h2 b3 g3 b4 g4 h5 h6 n f h fc fd p (upd q j v) := by
  have k : Kept (· = h6) w (w.setCell ⟨h6, j, none⟩ (.bool v)) := (Kept.refl (· = h6) w).put1 j _
  have ⟨x0, x1, x2, x3, x4, x5, x6, x7, x8⟩ := And.intro a.x0 (And.intro a.x1 (And.intro a.x2 (And.intro a.x3 (And.intro a.x4 (And.intro a.x5 (And.intro a.x6 (And.intro a.x7 a.x8)))))))
  exact ⟨a.s.kept k (by omega) (by omega), a.a.kept k (by omega), a.t.kept k (by omega) (by omega), a.bb.kept k (by omega), a.c.kept k (by omega) (by omega), a.d.kept k (by omega) (by omega), a.p.kept k (by omega), a.q.put hj v, a.tab.same (k.block _ a.tab.lt (by omega)), a.bel.trans (kept_below k a.bel.size (by omega)), x0, x1, x2, x3, x4, x5, x6, x7, x8⟩
theorem USt.kc (a : USt w0 w b1 g1 h1 b2 g2 h2 b3 g3 b4 g4 h5 h6 n f h fc fd p q) (k : Kept (· = g3) w w') (hc : SetW w' b3 g3 n fc') : USt w0 w' b1 g1 h1 b2 g2 h2 b3 g3 b4 g4 h5 h6 n f h fc' fd p q := by
  have ⟨x0, x1, x2, x3, x4, x5, x6, x7, x8⟩ := And.intro a.x0 (And.intro a.x1 (And.intro a.x2 (And.intro a.x3 (And.intro a.x4 (And.intro a.x5 (And.intro a.x6 (And.intro a.x7 a.x8)))))))
  exact ⟨a.s.kept k (by omega) (by omega), a.a.kept k (by omega), a.t.kept k (by omega) (by omega), a.bb.kept k (by omega), hc, a.d.kept k (by omega) (by omega), a.p.kept k (by omega), a.q.kept k (by omega), a.tab.same (k.block _ a.tab.lt (by omega)), a.bel.trans (kept_below k a.bel.size (by omega)), x0, x1, x2, x3, x4, x5, x6, x7, x8⟩
theorem USt.sst (a : USt w0 w b1 g1 h1 b2 g2 h2 b3 g3 b4 g4 h5 h6 n f h fc fd p q) : SSt w0 w b1 g1 h1 n f f := ⟨a.s, a.a, a.tab, a.bel, a.x0, a.x1.1, a.x1.2, a.x2.1, a.x2.2⟩
end

theorem USt.fin {w0 w : World} {b1 g1 h1 b2 g2 h2 b3 g3 b4 g4 h5 h6 n : Nat} {f h fc fd p p' q q' : Nat → Bool} (a : USt w0 w b1 g1 h1 b2 g2 h2 b3 g3 b4 g4 h5 h6 n f h fc fd p q) (ep : ∀ i, i < n → p i = p' i) (eq : ∀ i, i < n → q i = q' i) : USt w0 w b1 g1 h1 b2 g2 h2 b3 g3 b4 g4 h5 h6 n f h fc fd p' q' :=
  { a with p := a.p.congr ep, q := a.q.congr eq }

set_option maxRecDepth 100000 in
set_option maxHeartbeats 16000000 in
theorem union_walk (sz : Int) (a : Option Addr) (len cap : Nat) (c : Nat → Nat) (a2 : Option Addr) (len2 cap2 : Nat) (c2 : Nat → Nat) (w : World) (hs0 : 0 ≤ sz) (hs1 : sz ≤ 65535) (hu : U16s w a len cap c) (hu2 : U16s w a2 len2 cap2 c2) (hT : Tab w) :
    Calls Tryd.prog 6 #[.int .u16 sz, .slice a len cap, .slice a2 len2 cap2] w fun e w' => e = .returned (.bool true) ∧ Below w.heap.size w w' := by
  obtain ⟨n, hn⟩ : ∃ n : Nat, 1 + sz % 4096 = (n : Int) := ⟨(1 + sz % 4096).toNat, by omega⟩
  have hn2 : 1 + sz.tmod 4096 = (n : Int) := by rw [Int.tmod_eq_emod_of_nonneg hs0]; exact hn
  have hn1 : 1 ≤ n := by omega
  have hn3 : n ≤ 4096 := by omega
  have HMADE := Lib.hid (made_ok n a len cap c w hn1 hn3 hu)
  have HU := Lib.hid hu2
  have HT := Lib.hid hT
  clear hT hu hu2
  go_enter Tryd.func6, Tryd.ntmps6
  go_wp2_with fail
  refine HMADE.out.mono ?_
  rintro e w1 ⟨b1, g1, h1, p1, p2, p3, p4, rfl, hs, hl, hb⟩
  have ST1 : Hid (SSt w w1 b1 g1 h1 n (acc c n (min len 100)) (acc c n (min len 100))) := ⟨hs, hl, HT.out.below hb, hb, HT.out.lt, p1, p2, p3, p4⟩
  have HMADE2 := Lib.hid (made_ok n a2 len2 cap2 c2 w1 hn1 hn3 (HU.out.below hb))
  clear hs hl hb p1 p2 p3 p4 HMADE HU
  generalize acc c n (min len 100) = f at *
  clear hn hn2
  go_wp2_with fail
  refine HMADE2.out.mono ?_
  rintro e w2 ⟨b2, g2, h2, p1, p2, p3, p4, rfl, hs, hl, hb⟩
  have ST2 := Lib.hid (ST1.out.quiet hb)
  have S2 : Hid (SetW w2 b2 g2 n (acc c2 n (min len2 100)) ∧ Bl w2 h2 n (acc c2 n (min len2 100)) ∧ h1 < b2 ∧ h1 < g2 ∧ b2 < h2 ∧ g2 < h2) := by
    have := ST1.out.l.lt
    exact ⟨hs, hl, by omega, by omega, p3, p4⟩
  clear hs hl hb p1 p2 p3 p4 HMADE2 ST1
  generalize acc c2 n (min len2 100) = h at *
  go_wp2_with fail
  refine (copy_ok b1 g1 n f _ ST2.out.s).mono ?_
  rintro e w3 ⟨b3, g3, p1, p2, rfl, hs3, hb3⟩
  have S3 := Lib.hid hs3
  have B3 := Lib.hid hb3
  have P3 := Lib.hid (And.intro p1 p2)
  have ST3 := Lib.hid (ST2.out.quiet hb3)
  clear hs3 hb3 p1 p2
  go_wp2_with fail
  refine (copy_ok b1 g1 n f _ ST3.out.s).mono ?_
  rintro e w4 ⟨b4, g4, p1, p2, rfl, hs4, hb4⟩
  have S4 := Lib.hid hs4
  have B4 := Lib.hid hb4
  have P4 := Lib.hid (And.intro p1 p2)
  clear hs4 hb4 p1 p2 ST3
  have hq2 : g2 < w2.heap.size := S2.out.1.gt
  have hq3 : g3 < w3.heap.size := S3.out.gt
  have Q2 := Lib.hid hq2
  have Q3 := Lib.hid hq3
  clear hq2 hq3
  go_wp2_with fail
  refine (union_ok b3 g3 b2 g2 n f h _ (S3.out.below B4.out) ((S2.out.1.below B3.out).below B4.out) (.inl (by have := Q2.out; have := P3.out; omega))).mono ?_
  rintro e w5 ⟨rfl, hs5, hk5⟩
  have S5 := Lib.hid hs5
  have K5 := Lib.hid hk5
  clear hs5 hk5
  have HT5 : Hid (SetW w5 b2 g2 n h) := ((S2.out.1.below B3.out).below B4.out).kept K5.out (by have := S2.out; have := Q2.out; have := P3.out; have := S2.out.1.bt; omega) (by have := Q2.out; have := P3.out; omega)
  have HD5 : Hid (SetW w5 b4 g4 n f) := S4.out.kept K5.out (by have := Q3.out; have := P4.out; omega) (by have := Q3.out; have := P4.out; omega)
  go_wp2_with fail
  refine (minus_ok b4 g4 b2 g2 n f h _ HD5.out HT5.out (.inl (by have := Q2.out; have := P4.out; have := B3.out.size; omega))).mono ?_
  rintro e w6 ⟨rfl, hs6, hk6⟩
  have S6 := Lib.hid hs6
  have K6 := Lib.hid hk6
  have hbb : Below w2.heap.size w2 w6 := by
    have h1 := P3.out; have h2 := P4.out; have h3 := B3.out.size; have h4 := B4.out.size; have h5 := K5.out.size
    exact ((B3.out.trans (B4.out.mono h3)).trans (kept_below K5.out (by omega) h1.2)).trans (kept_below hk6 (by omega) (by omega))
  have HC6 : Hid (SetW w6 b3 g3 n (un f h)) := S5.out.kept hk6 (by have := Q3.out; have := P4.out; have := S3.out.bt; omega) (by have := Q3.out; have := P4.out; omega)
  have ST6 := Lib.hid (ST2.out.quiet hbb)
  have HS6 : Hid (SetW w6 b2 g2 n h ∧ Bl w6 h2 n h) := ⟨S2.out.1.below hbb, S2.out.2.1.below hbb⟩
  have ORD : Hid (h2 < b3 ∧ h2 < g3 ∧ b3 < b4 ∧ b3 < g4 ∧ g3 < b4 ∧ g3 < g4) := by
    have h1 := P3.out; have h2 := P4.out; have h3 := S2.out.2.1.lt; have h4 := S3.out.bt; have h5 := S3.out.gt
    exact ⟨by omega, by omega, by omega, by omega, by omega, by omega⟩
  clear hs6 hk6 hbb S3 B3 P3 S4 B4 P4 Q2 Q3 S5 K5 HT5 HD5 K6 ST2
  go_wp2_with fail
  refine (clone_bool h1 n n (fun i => .bool (f i)) _ hn1 hn3 (fun i hi => ST6.out.l.val hi) (fun _ => rfl) ST6.out.l.lt).mono ?_
  rintro e w7 ⟨h5, cap5, cur5, p1, rfl, hbk, hsz, hcp, _, hcell, hb7⟩
  have L7 : Hid (Bl w7 h5 n f) := ⟨cur5, hbk, by omega, hcell⟩
  have B7 := Lib.hid hb7
  have P7 := Lib.hid p1
  have ST7 := Lib.hid (ST6.out.quiet hb7)
  clear hbk hsz hcell hb7 p1
  go_wp2_with fail
  refine (clone_bool h1 n n (fun i => .bool (f i)) _ hn1 hn3 (fun i hi => ST7.out.l.val hi) (fun _ => rfl) ST7.out.l.lt).mono ?_
  rintro e w8 ⟨h6, cap6, cur6, p1, rfl, hbk, hsz, hcp6, _, hcell, hb8⟩
  have UU : Hid (USt w w8 b1 g1 h1 b2 g2 h2 b3 g3 b4 g4 h5 h6 n f h (un f h) (mi f h) f f) := by
    have h1 := S2.out.2.2; have h2 := ORD.out; have h3 := P7.out; have h4 := L7.out.lt
    have h5 := HC6.out.bt; have h6 := HC6.out.gt; have h7 := S6.out.bt; have h8 := S6.out.gt
    have hb68 := bel2 B7.out hb8
    have hx := ST6.out.quiet hb68
    exact ⟨hx.s, hx.l, HS6.out.1.below hb68, HS6.out.2.below hb68, HC6.out.below hb68, S6.out.below hb68, L7.out.below hb8, ⟨cur6, hbk, by omega, hcell⟩, hx.t, hx.bel, hx.x0, ⟨hx.x1, hx.x2⟩, ⟨hx.x3, hx.x4⟩, ⟨h1.1, h1.2.1⟩, ⟨h1.2.2.1, h1.2.2.2⟩, ⟨h2.1, h2.2.1⟩, ⟨h2.2.2.1, h2.2.2.2.1, h2.2.2.2.2.1, h2.2.2.2.2.2⟩, ⟨by omega, by omega, by omega, by omega⟩, by omega⟩
  clear hbk hsz hcell hb8 p1 S2 ORD P7 L7 HC6 S6 HS6 ST6 ST7 B7
  go_wp2
  go_loopw [18, 73] (fun cm i wr => ∃ k : Nat, k ≤ n ∧ i = .int .i64 k ∧ cm = .int .i64 ((lst (an f h) k).length : Nat) ∧ Hid (USt w wr b1 g1 h1 b2 g2 h2 b3 g3 b4 g4 h5 h6 n f h (un f h) (mi f h) (mixk (un f h) f k) (mixk (mi f h) f k))) (fun _ i _ => n - (intOf i).toNat)
  case atStart => exact ⟨0, Nat.zero_le _, rfl, by simp [lst], by rw [mixk_zero, mixk_zero]; exact UU.out⟩
  case round =>
    obtain ⟨k, hk, rfl, rfl, HU2⟩ := hrel
    by_cases hlt : k < n
    · have hcb := HU2.out.bb.val hlt
      have hc5 := HU2.out.p.val hlt
      have hf5 := HU2.out.p.fz k
      rw [mixk_at] at hc5
      have hV1 := HU2.out.kp hlt (un f h k)
      have hc6 := hV1.q.val hlt
      have hf6 := hV1.q.fz k
      rw [mixk_at] at hc6
      have hV2 := hV1.kq hlt (mi f h k)
      have hc1 := hV2.a.val hlt
      rw [mixk_succ, mixk_succ] at hV2
      have hsn := lst_snoc (an f h) k
      have hll := lst_len (an f h) k
      have hex : ∃ x y, f k = x ∧ h k = y := ⟨_, _, rfl, rfl⟩
      obtain ⟨x, y, hx, hy⟩ := hex
      have hu1 : un f h k = (x || y) := by rw [← hx, ← hy]; rfl
      have hu2 : mi f h k = (x && !y) := by rw [← hx, ← hy]; rfl
      have hu3 : an f h k = (x && y) := by rw [← hx, ← hy]; rfl
      rw [hu1] at hc6 hf6
      rw [hu1, hu2] at hc1 hV2
      rw [hu3] at hsn
      rw [hx] at hc5 hc6 hc1
      rw [hy] at hcb
      have HV2 := Lib.hid hV2
      have HSN := Lib.hid hsn
      have hs2 := congrArg List.length hsn
      rw [List.length_append] at hs2
      have HS2 := Lib.hid hs2
      clear hx hy hu1 hu2 hu3 hV1 hV2 hsn hs2
      obtain ⟨q, hq⟩ : ∃ q, (lst (an f h) k).length = q := ⟨_, rfl⟩
      rw [hq] at hll HS2 ⊢
      clear hq
      cases x
      all_goals cases y
      all_goals
        simp only [Bool.true_or, Bool.or_true, Bool.or_false, Bool.false_or, Bool.and_true, Bool.true_and, Bool.and_false, Bool.false_and, Bool.not_true, Bool.not_false] at hc5 hc6 hf6 hc1 HV2
        go_wp2
        go_roundw
        case rel => exact ⟨k + 1, by omega, by go_num, by rw [HS2.out]; first | rfl | go_num, HV2.out⟩
        case measure => simp [intOf]; omega
    · have hkn : k = n := by omega
      subst hkn
      have U0 := Lib.hid (HU2.out.fin (p' := un f h) (q' := mi f h) (fun i hi => by unfold mixk; rw [if_pos hi]) (fun i hi => by unfold mixk; rw [if_pos hi]))
      clear HU2
      obtain ⟨Lu, hLu⟩ : ∃ L, lst (un f h) k = L := ⟨_, rfl⟩
      obtain ⟨Lm, hLm⟩ : ∃ L, lst (mi f h) k = L := ⟨_, rfl⟩
      obtain ⟨Lf, hLf⟩ : ∃ L, lst f k = L := ⟨_, rfl⟩
      obtain ⟨Lh, hLh⟩ : ∃ L, lst h k = L := ⟨_, rfl⟩
      have e1 := len_un f h k
      have e2 := len_mi f h k
      rw [hLu, hLf, hLh] at e1
      rw [hLm, hLf] at e2
      have l1 : Lu.length ≤ 4096 := by rw [← hLu]; have := lst_len (un f h) k; omega
      have l2 : Lm.length ≤ 4096 := by rw [← hLm]; have := lst_len (mi f h) k; omega
      have l3 : Lf.length ≤ 4096 := by rw [← hLf]; have := lst_len f k; omega
      have l4 : Lh.length ≤ 4096 := by rw [← hLh]; have := lst_len h k; omega
      have l5 : (lst (an f h) k).length ≤ 4096 := by have := lst_len (an f h) k; omega
      obtain ⟨ca, hca⟩ : ∃ x, (lst (an f h) k).length = x := ⟨_, rfl⟩
      obtain ⟨cu, hcu⟩ : ∃ x, Lu.length = x := ⟨_, rfl⟩
      obtain ⟨cm, hcm⟩ : ∃ x, Lm.length = x := ⟨_, rfl⟩
      obtain ⟨cf, hcf⟩ : ∃ x, Lf.length = x := ⟨_, rfl⟩
      obtain ⟨ch, hch⟩ : ∃ x, Lh.length = x := ⟨_, rfl⟩
      rw [hca, hcu, hcf, hch] at e1
      rw [hca, hcm, hcf] at e2
      rw [hcu] at l1
      rw [hcm] at l2
      rw [hcf] at l3
      rw [hch] at l4
      rw [hca] at l5
      rw [hca]
      have HLU := Lib.hid hLu
      have HLM := Lib.hid hLm
      have HLF := Lib.hid hLf
      have HLH := Lib.hid hLh
      have HCU : Hid ((lst (un f h) k).length = cu) := by unfold Hid; rw [hLu, hcu]
      have HCM : Hid ((lst (mi f h) k).length = cm) := by unfold Hid; rw [hLm, hcm]
      have HCF : Hid ((lst f k).length = cf) := by unfold Hid; rw [hLf, hcf]
      have HCH : Hid ((lst h k).length = ch) := by unfold Hid; rw [hLh, hch]
      have t1 : (cu : Int) + (ca : Int) = (cf : Int) + (ch : Int) := by omega
      have t2 : (cm : Int) + (ca : Int) = (cf : Int) := by omega
      clear e1 e2 hLu hLm hLf hLh hca hcu hcm hcf hch
      go_wp2_with fail
      refine (all_s b3 g3 k (un f h) Lu _ U0.out.c U0.out.tab HLU.out).mono ?_
      rintro e z0 ⟨v0, rfl, hv0, _, hb0⟩
      have A0 := Lib.hid (U0.out.quiet hb0)
      have V0 := Lib.hid hv0
      clear hv0 hb0 U0
      go_wp2_with fail
      refine (listed_s h5 k cap5 (un f h) Lu _ hn3 A0.out.p HLU.out).mono ?_
      rintro e z1 ⟨v1, rfl, hv1, _, hb1⟩
      have B0 := Lib.hid (A0.out.quiet hb1)
      have W0 := Lib.hid (V0.out.below hb1)
      have V1 := Lib.hid hv1
      clear hv1 hb1 A0 V0
      go_wp2_with fail
      refine (equal_yes _ _ Lu _ W0.out V1.out).mono ?_
      rintro e z2 ⟨rfl, q0, rfl⟩
      have C0 := Lib.hid (B0.out.quiet (bel_drewN (Below.refl _ _) q0))
      clear W0 V1 B0
      generalize z1.drewN q0 = y0 at *
      go_wp2_with fail
      refine (all_s b4 g4 k (mi f h) Lm _ C0.out.d C0.out.tab HLM.out).mono ?_
      rintro e z3 ⟨v2, rfl, hv2, _, hb3⟩
      have A1 := Lib.hid (C0.out.quiet hb3)
      have V2 := Lib.hid hv2
      clear hv2 hb3 C0
      go_wp2_with fail
      refine (listed_s h6 k cap6 (mi f h) Lm _ hn3 A1.out.q HLM.out).mono ?_
      rintro e z4 ⟨v3, rfl, hv3, _, hb4⟩
      have B1 := Lib.hid (A1.out.quiet hb4)
      have W2 := Lib.hid (V2.out.below hb4)
      have V3 := Lib.hid hv3
      clear hv3 hb4 A1 V2
      go_wp2_with fail
      refine (equal_yes _ _ Lm _ W2.out V3.out).mono ?_
      rintro e z5 ⟨rfl, q1, rfl⟩
      have C1 := Lib.hid (B1.out.quiet (bel_drewN (Below.refl _ _) q1))
      clear W2 V3 B1
      generalize z4.drewN q1 = y1 at *
      go_wp2_with fail
      refine (count_n b3 g3 k cu (un f h) _ C1.out.c HCU.out).mono ?_
      rintro e w' ⟨rfl, rfl⟩
      go_wp2_with fail
      refine (count_n b1 g1 k cf f _ C1.out.s HCF.out).mono ?_
      rintro e w' ⟨rfl, rfl⟩
      go_wp2_with fail
      refine (count_n b2 g2 k ch h _ C1.out.t HCH.out).mono ?_
      rintro e w' ⟨rfl, rfl⟩
      go_wp2_with fail
      refine (count_n b4 g4 k cm (mi f h) _ C1.out.d HCM.out).mono ?_
      rintro e w' ⟨rfl, rfl⟩
      go_wp2_with fail
      refine (count_n b1 g1 k cf f _ C1.out.s HCF.out).mono ?_
      rintro e w' ⟨rfl, rfl⟩
      clear t1 t2
      go_wp2_with fail
      refine (all_s b2 g2 k h Lh _ C1.out.t C1.out.tab HLH.out).mono ?_
      rintro e z6 ⟨v4, rfl, hv4, _, hb6⟩
      have A2 := Lib.hid (C1.out.quiet hb6)
      have V4 := Lib.hid hv4
      clear hv4 hb6 C1
      go_wp2_with fail
      refine (listed_s h2 k k h Lh _ hn3 A2.out.bb HLH.out).mono ?_
      rintro e z7 ⟨v5, rfl, hv5, _, hb7⟩
      have B2 := Lib.hid (A2.out.quiet hb7)
      have W4 := Lib.hid (V4.out.below hb7)
      have V5 := Lib.hid hv5
      clear hv5 hb7 A2 V4
      go_wp2_with fail
      refine (equal_yes _ _ Lh _ W4.out V5.out).mono ?_
      rintro e z8 ⟨rfl, q2, rfl⟩
      have C2 := Lib.hid (B2.out.quiet (bel_drewN (Below.refl _ _) q2))
      clear W4 V5 B2
      generalize z7.drewN q2 = y2 at *
      go_wp2_with fail
      refine (all_s b1 g1 k f Lf _ C2.out.s C2.out.tab HLF.out).mono ?_
      rintro e z9 ⟨v6, rfl, hv6, _, hb9⟩
      have A3 := Lib.hid (C2.out.quiet hb9)
      have V6 := Lib.hid hv6
      clear hv6 hb9 C2
      go_wp2_with fail
      refine (listed_s h1 k k f Lf _ hn3 A3.out.a HLF.out).mono ?_
      rintro e z10 ⟨v7, rfl, hv7, _, hb10⟩
      have B3 := Lib.hid (A3.out.quiet hb10)
      have W6 := Lib.hid (V6.out.below hb10)
      have V7 := Lib.hid hv7
      clear hv7 hb10 A3 V6
      go_wp2_with fail
      refine (equal_yes _ _ Lf _ W6.out V7.out).mono ?_
      rintro e z11 ⟨rfl, q3, rfl⟩
      have C3 := Lib.hid (B3.out.quiet (bel_drewN (Below.refl _ _) q3))
      clear W6 V7 B3
      generalize z10.drewN q3 = y3 at *
      go_wp2_with fail
      refine (minus_ok b3 g3 b2 g2 k (un f h) h _ C3.out.c C3.out.t (.inl (by have := C3.out.x5; have := C3.out.x4; omega))).mono ?_
      rw [mi_un]
      rintro e zz ⟨rfl, hsz, hkz⟩
      have M0 := Lib.hid (C3.out.kc hkz hsz)
      clear hsz hkz C3
      go_wp2_with fail
      refine (all_s b3 g3 k (mi f h) Lm _ M0.out.c M0.out.tab HLM.out).mono ?_
      rintro e z12 ⟨v8, rfl, hv8, _, hb12⟩
      have A4 := Lib.hid (M0.out.quiet hb12)
      have V8 := Lib.hid hv8
      clear hv8 hb12 M0
      go_wp2_with fail
      refine (all_s b4 g4 k (mi f h) Lm _ A4.out.d A4.out.tab HLM.out).mono ?_
      rintro e z13 ⟨v9, rfl, hv9, _, hb13⟩
      have B4 := Lib.hid (A4.out.quiet hb13)
      have W8 := Lib.hid (V8.out.below hb13)
      have V9 := Lib.hid hv9
      clear hv9 hb13 A4 V8
      go_wp2_with fail
      refine (equal_yes _ _ Lm _ W8.out V9.out).mono ?_
      rintro e z14 ⟨rfl, q4, rfl⟩
      have C4 := Lib.hid (B4.out.quiet (bel_drewN (Below.refl _ _) q4))
      clear W8 V9 B4
      generalize z13.drewN q4 = y4 at *
      have R0 := Lib.hid C4.out.sst
      clear C4
      go_wp2_with fail
      refine (union_ok b1 g1 b1 g1 k f f _ R0.out.s R0.out.s (.inr ⟨rfl, rfl, rfl⟩)).mono ?_
      rw [un_self]
      rintro e zz2 ⟨rfl, hsz, hkz⟩
      have R1 := Lib.hid (R0.out.kg hkz hsz)
      clear hsz hkz R0
      go_wp2_with fail
      refine (all_s b1 g1 k f Lf _ R1.out.s R1.out.t HLF.out).mono ?_
      rintro e z15 ⟨v10, rfl, hv10, _, hb15⟩
      have A5 := Lib.hid (R1.out.quiet hb15)
      have V10 := Lib.hid hv10
      clear hv10 hb15 R1
      go_wp2_with fail
      refine (listed_s h1 k k f Lf _ hn3 A5.out.l HLF.out).mono ?_
      rintro e z16 ⟨v11, rfl, hv11, _, hb16⟩
      have B5 := Lib.hid (A5.out.quiet hb16)
      have W10 := Lib.hid (V10.out.below hb16)
      have V11 := Lib.hid hv11
      clear hv11 hb16 A5 V10
      go_wp2_with fail
      refine (equal_yes _ _ Lf _ W10.out V11.out).mono ?_
      rintro e z17 ⟨rfl, q5, rfl⟩
      have C5 := Lib.hid (B5.out.quiet (bel_drewN (Below.refl _ _) q5))
      clear W10 V11 B5
      generalize z16.drewN q5 = y5 at *
      go_wp2_with fail
      refine (minus_ok b1 g1 b1 g1 k f f _ C5.out.s C5.out.s (.inr ⟨rfl, rfl, rfl⟩)).mono ?_
      rw [mi_self]
      rintro e zz3 ⟨rfl, hsz, hkz⟩
      have R9 := Lib.hid (C5.out.kg hkz hsz)
      clear hsz hkz C5
      go_wp2_with fail
      refine (count_n b1 g1 k 0 _ _ R9.out.s (by rw [lst_empty]; rfl)).mono ?_
      rintro e w' ⟨rfl, rfl⟩
      go_wp2_with fail
      refine (works_ok _ R9.out.t).mono ?_
      rintro e zz4 ⟨rfl, hbz⟩
      go_wp2
      go_ret
      exact ⟨rfl, bel2 R9.out.bel hbz⟩
end Go.Proofs.YtaenemdclmnnaaaDoor
