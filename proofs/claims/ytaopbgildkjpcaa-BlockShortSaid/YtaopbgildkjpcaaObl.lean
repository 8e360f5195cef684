/- Package block and the document: what Build answers. -/
import Derived.Test.YtaopbgildkjpcaaOall
import Derived.Test.YtaopbgildkjpcaaBbld2
namespace Go.Proofs.Ytaopbgildkjpcaa.Bk
set_option linter.unusedVariables false
set_option linter.unusedSimpArgs false
open Go.RowKit Lift Ik Sk Vn
/-- What Build packs. -/
def bldB (ev : Int) (ts : List T) : List Nat := if may ts = 0 then blk (clamp ev) ts else []
theorem bldB_ok {ev : Int} {ts : List T} (h : may ts = 0) : bldB ev ts = blk (clamp ev) ts := if_pos h
theorem bldB_no {ev : Int} {ts : List T} (h : ¬ may ts = 0) : bldB ev ts = [] := if_neg h
theorem may_le (ts : List T) : may ts ≤ 10 := by unfold may; split; omega; split; omega; split <;> omega
theorem bare_max {every : Nat} {ts : List T} (hok : ∀ t, t ∈ ts → okT t = true) : (bare every ts).length ≤ 4404 * ts.length + 4 := by
  have h1 := body_max every ts 0 [] hok
  have h2 := ends_le every ts 0 [] 0
  have h3 := foot_len (ends every 0 [] 0 ts)
  unfold bare
  rw [List.length_append, h3]
  omega
theorem blk_max {every : Nat} {ts : List T} (hok : ∀ t, t ∈ ts → okT t = true) : (blk every ts).length ≤ 4404 * ts.length + 8 := by
  have h1 := bare_max (every := every) hok
  unfold blk
  rw [List.length_append, sum4_len]
  omega
theorem sum4_byte (b : List Nat) : ∀ x, x ∈ sum4 b → x < 256 := low_byte _ 4
theorem blk_byte {every : Nat} {L : List D} (h : ∀ d, d ∈ L → okT d.t = true ∧ d.k.ok ∧ ∀ c, c ∈ d.val → c < 256) : ∀ x, x ∈ blk every (L.map D.t) → x < 256 := by
  intro x hx
  unfold blk at hx
  rcases List.mem_append.1 hx with h1 | h1
  · exact bare_byte h x h1
  · exact sum4_byte _ x h1
/-- What Build answers. -/
def Bld (w : World) (ev : Int) (ts : List T) (e : Ending) (w' : World) : Prop :=
  ∃ v, e = .returned (.tuple #[v, .int .i64 (may ts : Nat)]) ∧ w'.ownsRow w.heap.size 5 1 v (bldB ev ts).length ((bldB ev ts).map vb) ∧ Below w.heap.size w w'
theorem Bld.no {w w' : World} {ev : Int} {ts : List T} (h : ¬ may ts = 0) (hb : Below w.heap.size w w') : Bld w ev ts (.returned (.tuple #[.slice none 0 0, .int .i64 (may ts : Nat)])) w' :=
  ⟨_, rfl, by rw [bldB_no h]; exact World.ownsRow_nil _ _ _ _, hb⟩
set_option maxRecDepth 100000 in
set_option maxHeartbeats 1600000 in
theorem obuild_any (A : Option Addr) (c : Nat) (L : List D) (ev : Int) (w : World) (h1 : Ents w (· < w.heap.size) A c L) (hn : L.length ≤ 1000000) :
    Calls Try.prog 11 #[.slice A L.length c, .int .i64 ev] w (Bld w ev (L.map D.t)) := by
  have HCK := Lib.hid (ocheck_any A c L w h1 hn)
  have hml := may_le (L.map D.t)
  by_cases hmay : may (L.map D.t) = 0
  · obtain ⟨hok, -, hlen⟩ := may_zero hmay
    rw [List.length_map] at hlen
    have hokL : ∀ d, d ∈ L → okT d.t = true := fun d hd => hok _ (List.mem_map.2 ⟨d, hd, rfl⟩)
    have HLY := Lib.hid (fun (W : World) (hb : Below w.heap.size w W) => olay_any A c L ev W (h1.next hb) hokL hlen)
    have hbm := bare_max (every := clamp ev) hok
    rw [List.length_map] at hbm
    have hbb := bare_byte (every := clamp ev) (L := L) fun d hd => ⟨hokL d hd, (h1.ok d hd).ok, (h1.ok d hd).v8⟩
    have HMAY := Lib.hid hmay
    have HBE := Lib.hid (bldB_ok (ev := ev) hmay)
    unfold blk sum4 at HBE
    rw [hmay] at HCK
    clear hmay hok hokL h1 hml
    generalize bare (clamp ev) (L.map D.t) = bb at *
    have HBM : Hid (bb.length ≤ 100000000) := Lib.hid (by omega)
    have HBB := Lib.hid hbb
    clear hbm hbb hlen
    go_enter Try.func11, Try.ntmps11
    go_wp2_with fail
    refine HCK.out.mono ?_
    rintro e W1 ⟨rfl, hb1⟩
    have HB1 := Lib.hid hb1
    clear hb1
    go_wp2_with fail
    refine (HLY.out W1 HB1.out).mono ?_
    intro e W2 hmade
    obtain ⟨v2, rfl, ho2, -, hb2⟩ := made_byts hmade
    obtain ⟨A2, c2, rfl, q1, q2, q3⟩ := own_parts ho2
    have HB2 := Lib.hid (HB1.out.trans (hb2.mono HB1.out.size))
    have HO2 := Lib.hid (own_lower ho2 HB1.out.size)
    have HS := Lib.hid (osum_any A2 c2 bb W2 q3 q1 q2 HBB.out)
    have HML := Lib.hid (Crc.maskN_lt (Crc.crc Crc.ent bb))
    clear hmade ho2 hb2 q1 q2 q3 HLY HCK
    generalize Crc.maskN (Crc.crc Crc.ent bb) = M at *
    go_wp2_with fail
    refine HS.out.mono ?_
    rintro e W3 ⟨rfl, hb3⟩
    have HB3 := Lib.hid (HB2.out.trans (hb3.mono HB2.out.size))
    have HO3 := Lib.hid (own_later HO2.out hb3)
    have HN := Lib.hid (onums_any w.heap.size M (.slice A2 bb.length c2) bb W3 HO3.out HB3.out.size (by have := HBM.out; omega) HML.out)
    clear hb3 HS
    go_wp2_with fail
    refine HN.out.mono ?_
    rintro e W4 ⟨v4, rfl, ho4, hon4⟩
    have HB4 := Lib.hid (HB3.out.trans (hon4.below HO3.out HB3.out.size))
    obtain ⟨A4, c4, hv4, -, -, -⟩ := own_parts ho4
    have HO4 := Lib.hid ho4
    subst hv4
    clear ho4 hon4 HN
    go_wp2_with fail
    go_returns
    exact ⟨.slice A4 (bb ++ low M 4).length c4, by rw [HMAY.out, List.length_append]; rfl, by rw [HBE.out]; exact HO4.out, HB4.out⟩
  · have d1 : ((may (L.map D.t) : Int) != 0) = true := by rw [bne_iff_ne]; omega
    have HMAY := Lib.hid hmay
    clear hmay h1
    have hE := fun (W : World) (hb : Below w.heap.size w W) => Bld.no (ev := ev) HMAY.out hb
    have HE := Lib.hid hE
    clear hE
    generalize may (L.map D.t) = mm at HCK d1 HE hml
    go_enter Try.func11, Try.ntmps11
    go_wp2_with fail
    refine HCK.out.mono ?_
    rintro e W1 ⟨rfl, hb1⟩
    have HB1 := Lib.hid hb1
    clear hb1
    go_wp2_with fail
    go_returns
    exact HE.out _ HB1.out
theorem betw_any (n : Int) (w : World) : Calls Try.prog 30 #[.int .i64 n, .int .i64 1, .int .i64 100] w fun e w' => e = .returned (.int .i64 (clamp n : Nat)) ∧ w = w' := by
  have hh : ((clamp n : Nat) : Int) = min (max n 1) 100 := by unfold clamp; omega
  by_cases h1 : n < 1
  · have d1 : decide (n < 1) = true := decide_eq_true h1
    have E := Lib.hid (show ((clamp n : Nat) : Int) = 1 by omega)
    clear hh
    go_enter Try.func30, Try.ntmps30
    go_wp2_with fail
    go_ret
    exact ⟨by rw [E.out]; rfl, rfl⟩
  · have d1 : decide (n < 1) = false := decide_eq_false h1
    by_cases h2 : 100 < n
    · have d2 : decide (100 < n) = true := decide_eq_true h2
      have E := Lib.hid (show ((clamp n : Nat) : Int) = 100 by omega)
      clear hh
      go_enter Try.func30, Try.ntmps30
      go_wp2_with fail
      go_ret
      exact ⟨by rw [E.out]; rfl, rfl⟩
    · have d2 : decide (100 < n) = false := decide_eq_false h2
      have E := Lib.hid (show ((clamp n : Nat) : Int) = n by omega)
      clear hh
      go_enter Try.func30, Try.ntmps30
      go_wp2_with fail
      go_ret
      exact ⟨by rw [E.out]; rfl, rfl⟩
set_option maxRecDepth 100000 in
set_option maxHeartbeats 1600000 in
theorem rbuild_any (A : Option Addr) (c : Nat) (L : List D) (ev : Int) (w : World) (h1 : Ents w (· < w.heap.size) A c L) :
    Calls Try.prog 12 #[.slice A L.length c, .int .i64 ev] w (Bld w ev (L.map D.t)) := by
  have HCK := Lib.hid (may_any A c L w h1)
  have hml := may_le (L.map D.t)
  by_cases hmay : may (L.map D.t) = 0
  · obtain ⟨hok, -, hlen⟩ := may_zero hmay
    rw [List.length_map] at hlen
    have hokL : ∀ d, d ∈ L → okT d.t = true := fun d hd => hok _ (List.mem_map.2 ⟨d, hd, rfl⟩)
    have HLY := Lib.hid (fun (W : World) (hb : Below w.heap.size w W) => build_any A c L (clamp ev) W (h1.next hb) hokL hlen (clamp_in ev))
    have HMAY := Lib.hid hmay
    have HBE := Lib.hid (bldB_ok (ev := ev) hmay)
    have HBT := Lib.hid (betw_any ev)
    rw [hmay] at HCK
    clear hmay hok hokL h1 hml
    generalize clamp ev = every at HLY HBE HBT
    go_enter Try.func12, Try.ntmps12
    go_wp2_with fail
    refine HCK.out.mono ?_
    rintro e W1 ⟨rfl, hb1⟩
    have HB1 := Lib.hid hb1
    clear hb1
    go_wp2_with fail
    refine (HBT.out W1).mono ?_
    rintro e w' ⟨rfl, rfl⟩
    go_wp2_with fail
    refine (HLY.out W1 HB1.out).mono ?_
    intro e W2 hmade
    obtain ⟨v2, rfl, ho2, -, hb2⟩ := made_byts hmade
    obtain ⟨A2, c2, hv2, -, -, -⟩ := own_parts ho2
    have HB2 := Lib.hid (HB1.out.trans (hb2.mono HB1.out.size))
    have HO2 := Lib.hid (own_lower ho2 HB1.out.size)
    subst hv2
    clear hmade ho2 hb2 HLY HCK
    go_wp2_with fail
    go_returns
    exact ⟨.slice A2 _ c2, by rw [HMAY.out]; rfl, by rw [HBE.out]; exact HO2.out, HB2.out⟩
  · have d1 : ((may (L.map D.t) : Int) != 0) = true := by rw [bne_iff_ne]; omega
    have HMAY := Lib.hid hmay
    clear hmay h1
    have hE := fun (W : World) (hb : Below w.heap.size w W) => Bld.no (ev := ev) HMAY.out hb
    have HE := Lib.hid hE
    clear hE
    generalize may (L.map D.t) = mm at HCK d1 HE hml
    go_enter Try.func12, Try.ntmps12
    go_wp2_with fail
    refine HCK.out.mono ?_
    rintro e W1 ⟨rfl, hb1⟩
    have HB1 := Lib.hid hb1
    clear hb1
    go_wp2_with fail
    go_returns
    exact HE.out _ HB1.out
end Go.Proofs.Ytaopbgildkjpcaa.Bk
