/- The listed variables of LedgerLines: those of the other laws, and unicode.CaseRanges. -/
import Derived.Test.YtenggngcigkakaaGreatDoorHen
namespace Go.Proofs.YtenggngcigkakaaGreatDoor
open Go.ChangeShapes Go.WideShapes Go.ChangeAt Go.RowKit

def laidListC : List (String × DataW Unit) := [("math/bits.deBruijn32tab", Rows.laid_math_bits_deBruijn32tab), ("math/bits.deBruijn64tab", Rows.laid_math_bits_deBruijn64tab), ("internal/strconv.uint64pow10", Rows.laid_internal_strconv_uint64pow10), ("unicode/utf8.acceptRanges", Rows.laid_unicode_utf8_acceptRanges), ("strconv.ErrRange", Rows.laid_strconv_ErrRange), ("strconv.ErrSyntax", Rows.laid_strconv_ErrSyntax), ("estray/descr.letters", Rows.laid_estray_descr_letters), ("estray/ledger.whys", Rows.laid_estray_ledger_whys), ("estray/ledger.answers", Rows.laid_estray_ledger_answers), ("unicode.CaseRanges", Rows.laid_unicode_CaseRanges), ("unicode/utf8.first", Rows.laid_unicode_utf8_first)]
theorem door_metC (os : Os) (args : Array Value) : laidMetH Tryz.prog laidListC ((World.laidAll Tryz.prog os laidListC).forCall (fun _ _ => 0) ⟨#[], args, []⟩).memory := by
  rw [MakeChecks.laidMetH_plain _ _ _ (by kernel_rfl)]
  exact laidMet_laidAll _ (by kernel_rfl) (by kernel_rfl)
theorem env_of_laidC {W : World} (h0 : laidMetH Tryz.prog laidListC W) (hsh : W.ShapedOpen Tryz.prog) : EnvL W := by
  rw [MakeChecks.laidMetH_plain _ _ _ (by kernel_rfl)] at h0
  have hl : Lib.VarReads Tryz.prog W "estray/descr.letters" (.agg (([[102], [98], [108]] : List (List UInt8)).map fun z => .lit (.string z))) := letters_eq ▸ Lib.laidMet.reads h0 (.tail _ (.tail _ (.tail _ (.tail _ (.tail _ (.tail _ (.head _)))))))
  have hy : Lib.VarReads Tryz.prog W "estray/ledger.whys" (.agg (([[], [99, 108, 111, 115, 101], [101, 120, 112, 105, 114, 121], [99, 111, 108, 108, 101, 99, 116]] : List (List UInt8)).map fun z => .lit (.string z))) := whys_eq ▸ Lib.laidMet.reads h0 (.tail _ (.tail _ (.tail _ (.tail _ (.tail _ (.tail _ (.tail _ (.head _))))))))
  have hn : Lib.VarReads Tryz.prog W "estray/ledger.answers" (.agg (([[], [111, 107], [108, 97, 116, 101, 114], [102, 97, 105, 108]] : List (List UInt8)).map fun z => .lit (.string z))) := answers_eq ▸ Lib.laidMet.reads h0 (.tail _ (.tail _ (.tail _ (.tail _ (.tail _ (.tail _ (.tail _ (.tail _ (.head _)))))))))
  have h3 : laidMet Tryz.prog (("internal/strconv.uint64pow10", Lib.tabData .u64 Lib.pow10Tab) :: [("unicode/utf8.acceptRanges", Rows.laid_unicode_utf8_acceptRanges), ("strconv.ErrRange", Rows.laid_strconv_ErrRange), ("strconv.ErrSyntax", Rows.laid_strconv_ErrSyntax), ("estray/descr.letters", Rows.laid_estray_descr_letters), ("estray/ledger.whys", Rows.laid_estray_ledger_whys), ("estray/ledger.answers", Rows.laid_estray_ledger_answers), ("unicode.CaseRanges", Rows.laid_unicode_CaseRanges), ("unicode/utf8.first", Rows.laid_unicode_utf8_first)]) W := h0.tail.tail
  obtain ⟨g, t, cs, fuel, p, hg, ht, hvar, htr⟩ := hl
  obtain rfl : g = 6 := (Option.some.inj ((show Tryz.prog.globalNamed "estray/descr.letters" = some 6 by kernel_rfl).symm.trans hg)).symm
  obtain rfl : t = 166 := (Option.some.inj ((show (Tryz.prog.globals[6]?).map (·.type) = some 166 by kernel_rfl).symm.trans ht)).symm
  have hcs := cells_of_strs Tryz.underlying166 Tryz.underlying9 (by kernel_rfl) (by kernel_rfl) htr
  have hc : ∀ i, W.cell? ⟨6, i, none⟩ = cs[i]? := fun i => World.var?_cell hg hvar i
  have hcs' : cs = #[.string ⟨#[102]⟩, .string ⟨#[98]⟩, .string ⟨#[108]⟩] := by
    apply Array.toList_inj.1
    rw [hcs]
    rfl
  obtain ⟨g2, t2, cs2, fuel2, p2, hg2, ht2, hvar2, htr2⟩ := hy
  obtain rfl : g2 = 0 := (Option.some.inj ((show Tryz.prog.globalNamed "estray/ledger.whys" = some 0 by kernel_rfl).symm.trans hg2)).symm
  obtain rfl : t2 = 84 := (Option.some.inj ((show (Tryz.prog.globals[(0 : Nat)]?).map (·.type) = some 84 by kernel_rfl).symm.trans ht2)).symm
  have hcs2 := cells_of_strs Tryz.underlying84 Tryz.underlying9 (by kernel_rfl) (by kernel_rfl) htr2
  have hc2 : ∀ i, W.cell? ⟨0, i, none⟩ = cs2[i]? := fun i => World.var?_cell hg2 hvar2 i
  have hcs2' : cs2 = #[.string ⟨#[]⟩, .string ⟨#[99, 108, 111, 115, 101]⟩, .string ⟨#[101, 120, 112, 105, 114, 121]⟩, .string ⟨#[99, 111, 108, 108, 101, 99, 116]⟩] := by
    apply Array.toList_inj.1
    rw [hcs2]
    rfl
  obtain ⟨g3, t3, cs3, fuel3, p3, hg3, ht3, hvar3, htr3⟩ := hn
  obtain rfl : g3 = 1 := (Option.some.inj ((show Tryz.prog.globalNamed "estray/ledger.answers" = some 1 by kernel_rfl).symm.trans hg3)).symm
  obtain rfl : t3 = 84 := (Option.some.inj ((show (Tryz.prog.globals[(1 : Nat)]?).map (·.type) = some 84 by kernel_rfl).symm.trans ht3)).symm
  have hcs3 := cells_of_strs Tryz.underlying84 Tryz.underlying9 (by kernel_rfl) (by kernel_rfl) htr3
  have hc3 : ∀ i, W.cell? ⟨1, i, none⟩ = cs3[i]? := fun i => World.var?_cell hg3 hvar3 i
  have hcs3' : cs3 = #[.string ⟨#[]⟩, .string ⟨#[111, 107]⟩, .string ⟨#[108, 97, 116, 101, 114]⟩, .string ⟨#[102, 97, 105, 108]⟩] := by
    apply Array.toList_inj.1
    rw [hcs3]
    rfl
  refine ⟨⟨Lib.tabIs_of_head (g := 7) (t := 188) (e := 125) (n := 20) (by kernel_rfl) (by kernel_rfl) Tryz.underlying188 Tryz.underlying125 (by kernel_rfl) (by kernel_rfl) h3, ⟨?_, ?_⟩, ?_, ?_, ?_, len_of_shaped hsh⟩, ⟨?_, ?_, ?_, ?_⟩, ⟨?_, ?_, ?_, ?_⟩⟩
  · obtain ⟨a, s, hv, _⟩ := laid_sentinel (g := 8) (tp := 205) h3.tail.tail.tail (by kernel_rfl) (by kernel_rfl) Tryz.underlying100 nameErr Tryz.underlying205 Tryz.underlying207 rfl rfl Tryz.underlying9 (by kernel_rfl) (by kernel_rfl)
    exact ⟨_, _, hv⟩
  · obtain ⟨a, s, hv, _⟩ := laid_sentinel (g := 9) (tp := 205) h3.tail.tail (by kernel_rfl) (by kernel_rfl) Tryz.underlying100 nameErr Tryz.underlying205 Tryz.underlying207 rfl rfl Tryz.underlying9 (by kernel_rfl) (by kernel_rfl)
    exact ⟨_, _, hv⟩
  · rw [hc, hcs']; rfl
  · rw [hc, hcs']; rfl
  · rw [hc, hcs']; rfl
  · rw [hc2, hcs2']; rfl
  · rw [hc2, hcs2']; rfl
  · rw [hc2, hcs2']; rfl
  · rw [hc2, hcs2']; rfl
  · rw [hc3, hcs3']; rfl
  · rw [hc3, hcs3']; rfl
  · rw [hc3, hcs3']; rfl
  · rw [hc3, hcs3']; rfl

end Go.Proofs.YtenggngcigkakaaGreatDoor
