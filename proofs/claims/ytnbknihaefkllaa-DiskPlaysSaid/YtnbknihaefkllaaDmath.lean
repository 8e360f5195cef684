/- Disks without armed failures, as they are told. -/
import Derived.Test.YtnbknihaefkllaaDfail
namespace Go.Proofs.Ytnbknihaefkllaa.Dk
set_option linter.unusedVariables false
set_option linter.unusedSimpArgs false
open Go.RowKit Go.Maps Lift Ik

theorem bad_ok {m : MS} {ns : List ByteArray} (h : m.armed = []) (hn : ns.all nmB = true) : bad m ns = 0 := by unfold bad; rw [hit_nil h, hn]; rfl
theorem bad_name {m : MS} {ns : List ByteArray} (h : m.armed = []) (hn : ns.all nmB = false) : bad m ns = 6 := by unfold bad; rw [hit_nil h, hn]; rfl
theorem append_new {m : MS} {nm : ByteArray} {b : List Nat} (h : m.armed = []) (hn : nmB nm = true) (hg : get m.fs nm = none) (hb : b.length ≤ 16777216) (hc : m.fs.length < 1000) (hr : used m.fs + b.length ≤ m.room) :
    appendM m nm b = (0, { m with fs := insM ⟨nm, b, 0⟩ m.fs }) := by
  unfold appendM
  rw [bad_ok h (by simp [hn]), hg, hit_nil h, if_neg (by simp), if_neg (by simp [lenOf]; omega), if_neg (by omega)]
theorem append_old {m : MS} {nm : ByteArray} {b : List Nat} {f : FM} (h : m.armed = []) (hn : nmB nm = true) (hg : get m.fs nm = some f) (hb : f.bs.length + b.length ≤ 16777216) (hr : used m.fs + b.length ≤ m.room) :
    appendM m nm b = (0, { m with fs := put1 m.fs ⟨f.nm, f.bs ++ b, f.syn⟩ }) := by
  unfold appendM
  rw [bad_ok h (by simp [hn]), hg, hit_nil h, if_neg (by simp), if_neg (by simp [lenOf]; omega), if_neg (by omega)]
theorem append_full {m : MS} {nm : ByteArray} {b : List Nat} (h : m.armed = []) (hn : nmB nm = true) (hb : lenOf (get m.fs nm) + b.length ≤ 16777216) (hc : m.fs.length < 1000) (hr : m.room < used m.fs + b.length) : appendM m nm b = (7, m) := by
  unfold appendM
  rw [bad_ok h (by simp [hn]), hit_nil h, if_neg (by simp), if_neg (by omega), if_pos hr]
theorem file_ok {α : Type} {m : MS} {nm : ByteArray} {f : FM} {no : Nat → α} {k : FM → α} (h : m.armed = []) (hn : nmB nm = true) (hg : get m.fs nm = some f) : onFile m [nm] nm no k = k f := by
  unfold onFile
  rw [bad_ok h (by simp [hn]), hg, if_neg (by simp)]
theorem read_all {m : MS} {nm : ByteArray} {f : FM} {n : Int} (h : m.armed = []) (hn : nmB nm = true) (hg : get m.fs nm = some f) (hl : (f.bs.length : Int) ≤ n) : readM m nm 0 n = (0, f.bs) := by
  unfold readM
  rw [file_ok h hn hg, if_neg (by omega)]
  simp only [Int.toNat_zero, List.drop_zero]
  rw [List.take_of_length_le (by omega)]
theorem sync_ok {m : MS} {nm : ByteArray} {f : FM} (h : m.armed = []) (hn : nmB nm = true) (hg : get m.fs nm = some f) : syncM m nm = (0, { m with fs := put1 m.fs ⟨f.nm, f.bs, f.bs.length⟩ }) := by
  unfold syncM
  rw [file_ok h hn hg, hit_nil h]
theorem get_head {f : FM} {l : List FM} {nm : ByteArray} (h : f.nm = nm) : get (f :: l) nm = some f := by unfold get; rw [List.find?_cons, decide_eq_true h]
theorem get_tail {f : FM} {l : List FM} {nm : ByteArray} (h : f.nm ≠ nm) : get (f :: l) nm = get l nm := by unfold get; rw [List.find?_cons, decide_eq_false h]
theorem put_head {f f' : FM} {l : List FM} (h : f.nm = f'.nm) : put1 (f :: l) f' = f' :: put1 l f' := by unfold put1; rw [List.map_cons, if_pos h]
theorem put_tail {f f' : FM} {l : List FM} (h : f.nm ≠ f'.nm) : put1 (f :: l) f' = f :: put1 l f' := by unfold put1; rw [List.map_cons, if_neg h]
theorem ins_one (f y : FM) (h : (kl f.nm).before (kl y.nm) = false) : insM f [y] = [y, f] := by unfold insM; rw [h]; rfl
theorem nm_a : nmB ⟨#[97]⟩ = true := by decide
end Go.Proofs.Ytnbknihaefkllaa.Dk
