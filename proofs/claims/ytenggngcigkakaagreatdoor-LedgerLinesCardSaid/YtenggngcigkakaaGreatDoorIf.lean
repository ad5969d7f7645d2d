/- The contract of the helper attempts. -/
import Derived.Test.YtenggngcigkakaaGreatDoorIe
namespace Go.Proofs.YtenggngcigkakaaGreatDoor
open Go.RowKit

/-- The slice reads as these entries. -/
def RdE (w : World) (v : Value) (l : List Ent) : Prop :=
  ∃ a c, v = .slice a l.length c ∧ l.length ≤ c ∧ c ≤ 9223372036854775807 ∧ (∀ x ∈ l, x.Rg) ∧ (0 < l.length → ∃ g off, a = some ⟨g, off, none⟩ ∧ g < w.heap.size ∧ ∀ (j : Nat) (h : j < l.length), w.cell? ⟨g, off + j * 4, none⟩ = some (.int .u8 l[j].u) ∧ w.cell? ⟨g, off + j * 4 + 1, none⟩ = some (.int .u8 l[j].r) ∧ w.cell? ⟨g, off + j * 4 + 2, none⟩ = some (.int .u8 l[j].y) ∧ w.cell? ⟨g, off + j * 4 + 3, none⟩ = some (.int .u8 l[j].n))
set_option maxRecDepth 100000 in
set_option maxHeartbeats 4000000 in
theorem atts_ok (a : Option Addr) (n c : Nat) (l : List Ent) (w : World) (hr : RdE w (.slice a n c) l) : Calls Tryz.prog 39 #[.slice a n c] w (NewA (entL 0 (l.take 100)) w) := by
  obtain ⟨a', c', e, hlc, hcm, hrg, hcell⟩ := hr
  injection e with e1 e2 e3
  subst e1 e2 e3
  obtain ⟨j0, hj', hy0, hy1, hy2⟩ := info_parts info_att
  obtain ⟨m, hm⟩ : ∃ m, min l.length 100 = m := ⟨_, rfl⟩
  have hm1 : m ≤ l.length := by omega
  have hm2 : m ≤ 100 := by omega
  have hmi : min (l.length : Int) 100 = m := by omega
  have hmc : (m : Int) ≤ c := by omega
  have hm0 : (0 : Int) ≤ m := by omega
  have HM := Lib.hid hm
  have HRG := Lib.hid hrg
  have HC := Lib.hid hcell
  clear hm hrg hcell
  go_enter Tryz.func39, Tryz.ntmps39
  go_wp2
  go_loopw [3, 4, 14] (fun v t i wr => ∃ j : Nat, j ≤ m ∧ i = .int .i64 j ∧ t = .int .i64 (entT 0 (l.take j)) ∧ Hid (wr.ownsRow w.heap.size 32 6 v (entL 0 (l.take j)).length (cls (entL 0 (l.take j)))) ∧ Hid (Below w.heap.size w wr)) (fun _ _ i _ => m - (intOf i).toNat)
  case atStart => exact ⟨0, Nat.zero_le _, rfl, rfl, World.ownsRow_nil _ _ _ _, Below.refl _ _⟩
  case round =>
    obtain ⟨j, hj, rfl, rfl, HO, HB⟩ := hrel
    by_cases hlt : j < m
    · obtain ⟨g, off, rfl, hg, hcl⟩ := HC.out (by omega)
      obtain ⟨b0, b1, b2, b3⟩ := hcl j (by omega)
      have hxr := HRG.out _ (List.getElem_mem (show j < l.length by omega))
      have HS1 := Lib.hid (entL_snoc l j (by omega) 0)
      have HS2 := Lib.hid (entT_snoc l j (by omega) 0)
      have htt := entT_le (l.take j) (fun x hx => HRG.out x (List.mem_of_mem_take hx)) 0
      rw [List.length_take] at htt
      have hT : entT 0 (l.take j) ≤ 25500 := by omega
      clear htt hcl
      generalize l[j] = x at *
      obtain ⟨h1, h2, h3, h4⟩ := hxr
      generalize entT 0 (l.take j) = T at *
      have k0 := cell_stays HB.out b0
      have k1 := cell_stays HB.out b1
      have k2 := cell_stays HB.out b2
      have k3 := cell_stays HB.out b3
      have hW3 := bel_new wr (.cells #[.int .u8 x.u, .int .u8 x.r, .int .u8 x.y, .int .u8 x.n] 73)
      have hbx := Bk.new wr 73 #[.int .u8 x.u, .int .u8 x.r, .int .u8 x.y, .int .u8 x.n]
      have d0 := hbx.cell 0
      have d1 := hbx.cell 1
      have d2 := hbx.cell 2
      have d3 := hbx.cell 3
      have HB3 := Lib.hid (bel2 HB.out hW3)
      have HO3 := Lib.hid (own_below HO.out hW3)
      clear b0 b1 b2 b3 hW3 hbx HO3
      have hnw := news_new ((wr.alloc (.cells #[.int .u8 x.u, .int .u8 x.r, .int .u8 x.y, .int .u8 x.n] 73)).alloc (.cells #[.int .i64 (1 + (x.r : Int) % 3), .int .i64 ((x.r : Int) / 3 % 2), .int .u32 (1 + (x.r : Int) / 6 % 2)] 25)) (entA T x)
      rw [size_up, size_up] at hnw
      have HNW := Lib.hid hnw
      have HOA := Lib.hid (((HO.out.alloc (.cells #[.int .u8 x.u, .int .u8 x.r, .int .u8 x.y, .int .u8 x.n] 73)).alloc (.cells #[.int .i64 (1 + (x.r : Int) % 3), .int .i64 ((x.r : Int) / 3 % 2), .int .u32 (1 + (x.r : Int) / 6 % 2)] 25)).alloc (.cells (entA T x).cl.toArray 32))
      have HBA := Lib.hid (bel2 HB3.out (bel2 (bel_new _ (.cells #[.int .i64 (1 + (x.r : Int) % 3), .int .i64 ((x.r : Int) / 3 % 2), .int .u32 (1 + (x.r : Int) / 6 % 2)] 25)) (bel_new _ (.cells (entA T x).cl.toArray 32))))
      have HLN : Hid ((entL 0 (l.take j)).length = j) := by rw [Hid, entL_length, List.length_take]; omega
      have hjl : j ≤ 100 := by omega
      clear hnw
      generalize entL 0 (l.take j) = L at *
      have hL := HLN.out
      go_wp2_with (at_builtin; refine wpList_append_own _ rfl _ _ 22 rfl w.heap.size 32 j0 _ 6 48 Tryz.underlying22 hj' hy0 hy1 hy2 rfl (by decide) _ L.length (cls L) rfl HOA.out ⟨wr.heap.size + 1 + 1, 0, none⟩ 1 1 (entA T x).cl rfl rfl ?c1 (cl_one _) ?c3 ?c4 ?c5 ?_)
      case c1 => exact HNW.out
      case c3 => unfold maxLen; omega
      case c4 => omega
      case c5 => have := HB.out.size; simp; omega
      intro v' w5 hown' hgrow _
      have HB5 : Hid (Below w.heap.size w w5) := HBA.out.grown hgrow (by have := HB.out.size; simp; omega) (fun q hq => (HOA.out.lt q hq).1)
      have HO5 : Hid (w5.ownsRow w.heap.size 32 6 v' (entL 0 (l.take (j + 1))).length (cls (entL 0 (l.take (j + 1))))) := by
        rw [Hid, HS1.out, cls_snoc, List.length_append, HLN.out]; exact hown'
      clear hown' hgrow d0 d1 d2 d3 k0 k1 k2 k3
      go_wp2
      go_roundw
      case rel => exact ⟨j + 1, by omega, by go_num, by rw [HS2.out]; go_num, HO5.out, HB5.out⟩
      case measure => simp [intOf]; omega
    · obtain rfl : j = m := by omega
      have hl : l.take j = l.take 100 := by
        rcases Nat.le_total l.length 100 with h | h
        · have := HM.out
          rw [List.take_of_length_le (by omega), List.take_of_length_le (by omega)]
        · have := HM.out
          rw [show j = 100 by omega]
      have ho := HO.out
      rw [hl] at ho
      have HO2 := Lib.hid ho
      clear ho hl hlt
      go_wp2
      go_ret
      exact ⟨_, rfl, HO2.out, HB.out⟩
end Go.Proofs.YtenggngcigkakaaGreatDoor
