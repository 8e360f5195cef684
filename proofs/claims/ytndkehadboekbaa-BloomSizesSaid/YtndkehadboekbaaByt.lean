/- Bytes in memory: what bytes.Clone answers; bytes as a string. (XLow has the same and more: take one of the two.) -/
import Derived.Test.YtndkehadboekbaaMade
import Derived.Test.YtndkehadboekbaaIkm
import Derived.Laws.BitsAllLaws
import Derived.Laws.BitsLemmas
import Derived.Deep.QuietTactic
import Derived.BigQuiet
import Derived.RowKit3
import Derived.LoopTactic
import Derived.Outline
import Derived.Lib.SliceRun
import Derived.Lib.SmallJoins
import Derived.Lib.BytesEntry
import Derived.Lib.Strings
namespace Go.Proofs.Ytndkehadboekbaa.Ik
set_option linter.unusedVariables false
set_option linter.unusedSimpArgs false
open Go.RowKit Lift
/-- A byte. -/
abbrev vb (c : Nat) : Value := .int .u8 (c : Int)
theorem cells_at {w : World} {ad : Addr} {bs : List Nat} (h : ∀ (j : Nat) (u : Value), (bs.map vb)[j]? = some u → w.cell? (ad.add j) = some u) :
    ∀ (j c : Nat), bs[j]? = some c → w.cell? (ad.add j) = some (.int .u8 (c : Int)) :=
  fun j c hj => h j _ (by rw [List.getElem?_map, hj]; rfl)
theorem str_list (bs : List Nat) : (str bs).data.toList = u8s bs := by
  have h : ∀ (l : List Nat) (r : ByteArray), ((l.map fun b : Nat => (b : Int)).foldl (fun r n => r.push (UInt8.ofNat n.toNat)) r).data.toList = r.data.toList ++ u8s l := by
    intro l
    induction l with
    | nil => intro r; simp [u8s]
    | cons c l ih =>
      intro r
      rw [List.map_cons, List.foldl_cons, ih]
      simp [u8s, ByteArray.push]
  have := h bs ByteArray.empty
  unfold str
  rw [this]
  rfl
theorem str_eq {x y : List Nat} (hx : ∀ a, a ∈ x → a < 256) (hy : ∀ a, a ∈ y → a < 256) : ((str x).toList == (str y).toList) = decide (x = y) := by
  rw [Lib.toList_data, Lib.toList_data, str_list, str_list]
  rw [Bool.eq_iff_iff, beq_iff_eq, decide_eq_true_iff]
  exact u8s_inj hx hy
end Go.Proofs.Ytndkehadboekbaa.Ik
