/- What the laws of the cache share: caches of the call's own; the document's example. -/
import Derived.Test.YtbeohfmikpbkhaaCoD
namespace Go.Proofs.Ytbeohfmikpbkhaa.Ck
set_option linter.unusedVariables false
set_option linter.unusedSimpArgs false
open Go.RowKit Go.Maps Lift Ik
/-- A law answers true, and nothing old has changed. -/
def Yes (w : World) (e : Ending) (w' : World) : Prop := e = .returned (.bool true) ∧ Below w.heap.size w w'
/-- A cache of the call's own. -/
structure Own (w0 W : World) (g : Nat) (Y : Nat → Prop) (room : Nat) (r : R) : Prop where
  oc : OC W g Y room r
  ge : ∀ k, Y k → w0.heap.size ≤ k
  be : Below w0.heap.size w0 W
section
variable {w0 W W' : World} {g room : Nat} {Y : Nat → Prop} {r r' : R}
theorem Own.below (h : Own w0 W g Y room r) (hb : Below W.heap.size W W') : Own w0 W' g Y room r := ⟨h.oc.below hb, h.ge, h.be.trans (hb.mono h.be.size)⟩
theorem Own.went (h : Own w0 W g Y room r) (hw : OWent W g Y room r' W') : ∃ Y', Own w0 W' g Y' room r' := by
  obtain ⟨Y', h1, h2, h3⟩ := hw
  exact ⟨Y', h1, fun k hk => (h3 k hk).elim (h.ge k) fun h => Nat.le_trans ‹Own w0 W g Y room r›.be.size h, h.be.trans (h2.below h.be.size h.ge)⟩
theorem Own.got {f a : Int} {e : Ending} (h : Own w0 W g Y room r) (hw : GotO W g Y room r f a e W') : ∃ A c bs, bs = (getC r f a).2.getD [] ∧ e = .returned (.tuple #[.slice A bs.length c, .bool (getC r f a).2.isSome]) ∧ W'.ownsRow W.heap.size 5 1 (.slice A bs.length c) bs.length (bs.map vb) ∧ Own w0 W' g Y room (getC r f a).1 := by
  obtain ⟨A, c, bs, h1, h2, h3, h4, h5⟩ := hw
  exact ⟨A, c, bs, h1, h2, h3, h4, h.ge, h.be.trans (h5.below h.be.size h.ge)⟩
theorem own_new {W' : World} (hg : W.heap.size = g) (h : OC W' g (· = g) room r) (h0 : Below w0.heap.size w0 W) (hb : Below W.heap.size W W') : Own w0 W' g (· = g) room r :=
  ⟨h, fun k hk => by rw [hk, ← hg]; exact h0.size, h0.trans (hb.mono h0.size)⟩
/-- Bytes of one byte that a call lays just ahead. -/
theorem one_lies (h : OC W g Y room r) (x : Nat) : LiesP (W.alloc (.cells #[.int .u8 (x : Int)] 5)) (fun k => k < (W.alloc (.cells #[.int .u8 (x : Int)] 5)).heap.size ∧ ¬ Y k) (some ⟨W.heap.size, 0, none⟩) ([x].map vb) := by
  refine .inr ⟨⟨W.heap.size, 0, none⟩, rfl, ⟨by simp, fun hy => Nat.lt_irrefl _ (h.lt _ hy)⟩, fun j u hj => ?_⟩
  cases j with
  | zero =>
    have e : Value.int .u8 (x : Int) = u := by simpa using hj
    rw [← e]
    exact (Lift.Box.new W 5 [.int .u8 (x : Int)]).cell 0
  | succ j => simp at hj
theorem Own.put1 (h : Own w0 W g Y room r) (f a : Int) (hf : wf64 f) (ha : wf64 a) (hp : pinned r.1 + 1 ≤ 1000) (hn : r.1.length + 1 ≤ 1000) :
    Calls Try.prog (10) #[pt g, .int .i64 f, .int .i64 a, .slice (some ⟨W.heap.size, 0, none⟩) 1 1] (W.alloc (.cells #[.int .u8 1] 5)) fun e w' => e = .returned (.bool (putC room r f a [1]).2) ∧ ∃ Y', Own w0 w' g Y' room (putC room r f a [1]).1 := by
  have hb := Joins.below_alloc1 W (.cells #[.int .u8 1] 5)
  refine (put_any f a _ 1 [1] hf ha (h.below hb).oc (one_lies h.oc 1) (fun e => by cases e) (by decide) (by decide) hp hn).mono ?_
  rintro e w' ⟨rfl, hw⟩
  exact ⟨rfl, (h.below hb).went hw⟩
theorem Own.rel (h : Own w0 W g Y room r) (f a : Int) (hf : wf64 f) (ha : wf64 a) :
    Calls Try.prog (14) #[pt g, .int .i64 f, .int .i64 a] W fun e w' => e = .returned (.bool (relC r f a).2) ∧ ∃ Y', Own w0 w' g Y' room (relC r f a).1 := by
  refine (rel_any f a hf ha h.oc).mono ?_
  rintro e w' ⟨rfl, hw⟩
  exact ⟨rfl, h.went hw⟩
theorem Own.drop (h : Own w0 W g Y room r) (f : Int) :
    Calls Try.prog (16) #[pt g, .int .i64 f] W fun e w' => e = .returned (vi ((dropC r f).2 : Nat)) ∧ ∃ Y', Own w0 w' g Y' room (dropC r f).1 := by
  refine (drop_any f h.oc).mono ?_
  rintro e w' ⟨rfl, hw⟩
  exact ⟨rfl, h.went hw⟩
end
set_option maxRecDepth 100000 in
set_option maxHeartbeats 1600000 in
theorem alive_any (w : World) : Calls Try.prog 7 #[] w (Yes w) := by
  have HN0 := Lib.hid (new_any 0 (by decide) w)
  rw [show roomO 0 = 0 from by decide] at HN0
  go_enter Try.func7, Try.ntmps7
  go_wp2_with fail
  refine HN0.out.mono ?_
  rintro e W1 ⟨rfl, hc1, hb1⟩
  have HN5 := Lib.hid (new_any 5 (by decide) W1)
  rw [show roomO 5 = 5 from by decide] at HN5
  go_wp2_with fail
  refine HN5.out.mono ?_
  rintro e W2 ⟨rfl, hd2, hb2⟩
  have hsz1 : w.heap.size < W1.heap.size := hc1.lt _ rfl
  have HC := Lib.hid ((own_new rfl hc1 (Below.refl _ w) hb1).below hb2)
  have HD := Lib.hid (own_new (g := W1.heap.size) rfl hd2 hb1 hb2)
  have HP1 := Lib.hid (put_any 1 0 _ 1 [1] (by decide) (by decide) (HC.out.below (Joins.below_alloc1 W2 (.cells #[.int .u8 1] 5))).oc (one_lies HC.out.oc 1) (fun e => by cases e) (by decide) (by decide) (by decide) (by decide))
  rw [show (putC 0 ([], 0) 1 0 [1]) = (([], 0), false) from rfl] at HP1
  clear hc1 hb1 hd2 hb2 HN0 HN5
  go_wp2_with fail
  refine HP1.out.mono ?_
  rintro e W3 ⟨rfl, Y3, h1, h2, h3⟩
  have HD3 : Hid (Own w W3 W1.heap.size (· = W1.heap.size) 5 ([], 0)) := Lib.hid (by
    have hd := HD.out.below (Joins.below_alloc1 W2 (.cells #[.int .u8 1] 5))
    exact ⟨hd.oc.keep h2 fun k hk e1 => by omega, hd.ge, hd.be.trans (h2.below hd.be.size fun k hk => by rw [hk]; exact Nat.le_refl _)⟩)
  have HP2 := Lib.hid (HD3.out.put1 1 0 (by decide) (by decide) (by decide) (by decide))
  rw [show (putC 5 ([], 0) 1 0 [1]) = (([⟨1, 0, [1], 1, true⟩], 0), true) from rfl] at HP2
  clear h1 h2 h3 HP1 HC HD
  go_wp2_with fail
  refine HP2.out.mono ?_
  rintro e W4 ⟨rfl, Y4, h4⟩
  have HU := Lib.hid (used_any h4.oc)
  rw [show vi (used ([⟨1, 0, [1], 1, true⟩] : List S) : Nat) = .int .i64 1 from rfl] at HU
  have HPI := Lib.hid (pins_any h4.oc)
  rw [show vi (pinned ([⟨1, 0, [1], 1, true⟩] : List S) : Nat) = .int .i64 1 from rfl] at HPI
  have HB4 := Lib.hid h4.be
  clear h4 HP2
  go_wp2_with fail
  refine HU.out.mono ?_
  rintro e W5 ⟨rfl, rfl⟩
  go_wp2_with fail
  refine HPI.out.mono ?_
  rintro e W6 ⟨rfl, hb6⟩
  have HB6 := Lib.hid hb6
  clear hb6 HU HPI
  go_wp2_with fail
  go_ret
  exact ⟨rfl, HB4.out.trans (HB6.out.mono HB4.out.size)⟩
end Go.Proofs.Ytbeohfmikpbkhaa.Ck
