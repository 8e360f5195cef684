/- Proved: for any row of edits, VersionRows of butterylaw17 answers true (edit by edit, Apply of package version gives the versions and errors of the definition), and its argument reads as before. Conditions: none beyond what the given row states. -/
import Derived.Test.YthhmjjmjicmhdaaVed
import Derived.Deep.CutBlock
import Derived.Deep.DeepCutAuto
import Derived.Deep.Cut
namespace Go.Proofs.Ythhmjjmjicmhdaa.versionRows
set_option linter.unusedVariables false
set_option linter.unusedSimpArgs false
open Go.ChangeShapes Go.WideShapes Go.ChangeAt Go.RowKit Lift Ed Ve Ik

theorem own : ownKnob Try.prog.godebug = none := by kernel_rfl

/-- What the loop keeps: both versions, the edits. -/
structure Rw (w wr : World) (A : Option Addr) (c : Nat) (L : List X) (y z : Y) (g1 g2 : Nat) : Prop where
  b1 : Box wr g1 44 y.cells
  b2 : Box wr g2 44 z.cells
  oy : y.Ok wr wr.heap.size
  oz : z.Ok wr wr.heap.size
  te : y.t = z.t
  few : y.runs.length ≤ 1000000
  es : Eds wr w.heap.size A c L
  be : Below w.heap.size w wr
  ge1 : w.heap.size ≤ g1
  ge2 : w.heap.size ≤ g2
  ne : g1 ≠ g2
section
variable {w wr w' : World} {A : Option Addr} {c : Nat} {L : List X} {y z a b : Y} {g1 g2 g3 g4 : Nat}
theorem Rw.below (h : Rw w wr A c L y z g1 g2) (hb : Below wr.heap.size wr w') : Rw w w' A c L y z g1 g2 :=
  ⟨h.b1.below hb h.b1.lt, h.b2.below hb h.b2.lt, h.oy.next hb, h.oz.next hb, h.te, h.few, h.es.below (hb.mono h.be.size), h.be.trans (hb.mono h.be.size), h.ge1, h.ge2, h.ne⟩
/-- Both versions are put in place of the old ones. -/
theorem Rw.put (h : Rw w wr A c L y z g1 g2) (ha : a.Ok wr wr.heap.size) (hb : b.Ok wr wr.heap.size) (ht : a.t = b.t) (hf : a.runs.length ≤ 1000000) : Rw w ((wr.setRow g1 a.cells.toArray).setRow g2 b.cells.toArray) A c L a b g1 g2 := by
  have k1 := Ve.keep_setRow wr g1 a.cells.toArray
  have x1 : Box (wr.setRow g1 a.cells.toArray) g1 44 a.cells := setRow_heap _ _ _ _ _ _ h.b1
  have x2 := h.b2.keep k1 (fun e => h.ne e.symm)
  have k2 := Ve.keep_setRow (wr.setRow g1 a.cells.toArray) g2 b.cells.toArray
  have x3 : Box ((wr.setRow g1 a.cells.toArray).setRow g2 b.cells.toArray) g2 44 b.cells := setRow_heap _ _ _ _ _ _ x2
  have b1 : Below w.heap.size w (wr.setRow g1 a.cells.toArray) := below_setRow h.be h.ge1 _
  have hk : Below w.heap.size wr (wr.setRow g1 a.cells.toArray) := k1.below h.be.size fun k hk => by have := h.ge1; omega
  have hk2 : Below w.heap.size (wr.setRow g1 a.cells.toArray) ((wr.setRow g1 a.cells.toArray).setRow g2 b.cells.toArray) := k2.below b1.size fun k hk => by have := h.ge2; omega
  exact ⟨x1.keep k2 h.ne, x3, (ha.poke (vbox_of h.b1) k1).poke (vbox_of x2) k2, (hb.poke (vbox_of h.b1) k1).poke (vbox_of x2) k2, ht, hf, (h.es.below hk).below hk2, b1.trans (hk2.mono (Nat.le_refl _)), h.ge1, h.ge2, h.ne⟩
end
set_option maxRecDepth 100000 in
set_option maxHeartbeats 12800000 in
theorem walk (A : Option Addr) (c : Nat) (L : List X) (w : World) (hE : Eds w w.heap.size A c L) : Calls Try.prog 8 #[.slice A L.length c] w (Yes w) := by
  have HE := Lib.hid hE
  have hlc := Nat.le_trans hE.len hE.cap
  clear hE
  unfold maxLen at hlc
  go_enter Try.func8, Try.ntmps8
  go_wp2_with fail
  refine (valive_any _).mono ?_
  rintro e W1 ⟨rfl, hb1⟩
  have HB1 := Lib.hid hb1
  clear hb1
  by_cases h15 : 15 < L.length
  · have d1 : decide (15 < L.length) = true := decide_eq_true h15
    have d2 : decide ((15 : Int) < (L.length : Int)) = true := decide_eq_true (by omega)
    clear h15
    go_wp2_with fail
    go_ret
    exact ⟨rfl, HB1.out⟩
  · have d1 : decide (15 < L.length) = false := decide_eq_false h15
    have d2 : decide ((15 : Int) < (L.length : Int)) = false := decide_eq_false (by omega)
    have HST0 : Hid (Rw w ((W1.alloc oneV.box).alloc oneV.box) A c L oneV oneV W1.heap.size (W1.heap.size + 1)) := Lib.hid (by
      have hb2 := Joins.below_alloc2 W1 oneV.box oneV.box
      have x2 : Box ((W1.alloc oneV.box).alloc oneV.box) (W1.heap.size + 1) 44 oneV.cells := by
        have h := Box.new (W1.alloc oneV.box) 44 oneV.cells
        have e : (W1.alloc oneV.box).heap.size = W1.heap.size + 1 := by simp
        rwa [e] at h
      have hb := HB1.out.trans (hb2.mono HB1.out.size)
      have h1 := HB1.out.size
      exact ⟨(Box.new W1 44 oneV.cells).alloc _, x2, oneV_ok _ _, oneV_ok _ _, rfl, Nat.zero_le _, HE.out.below hb, hb, h1, Nat.le_succ_of_le h1, Nat.ne_of_lt (Nat.lt_succ_self _)⟩)
    clear h15
    go_upto_region 6 with fail
    generalize hW : (W1.alloc (.cells #[.slice none 0 0, .int .i64 1, .int .i64 0, .int .u64 0] 44)).alloc (.cells #[.slice none 0 0, .int .i64 1, .int .i64 0, .int .u64 0] 44) = W2 at *
    clear hW
    obtain ⟨g1, hg1⟩ : ∃ g, g = W1.heap.size := ⟨_, rfl⟩
    rw [← hg1] at HST0 ⊢
    clear hg1
    obtain ⟨g2, hg2⟩ : ∃ g, g = g1 + 1 := ⟨_, rfl⟩
    rw [← hg2] at HST0 ⊢
    clear hg2
    go_wp2_with fail
    go_loopw [6] (fun i wr => ∃ (k : Nat) (y z : Y), k ≤ L.length ∧ i = .int .i64 (k : Int) ∧ Hid (Rw w wr A c L y z g1 g2)) (fun i _ => L.length + 1 - (intOf i).toNat)
    case atStart => exact ⟨0, oneV, oneV, Nat.zero_le _, rfl, HST0⟩
    case round =>
      clear HST0
      obtain ⟨k, y, z, hk, rfl, HS⟩ := hrel
      by_cases hlt : k < L.length
      · obtain ⟨x, hx⟩ : ∃ x, L[k]? = some x := ⟨_, List.getElem?_eq_getElem hlt⟩
        obtain ⟨ad, p, hA, -, hpp, q0, q1, q2, q3, q4⟩ := HS.out.es.place hx
        subst hA
        have ql := load_edit q0 q1 q2 q3 q4
        have HXK := Lib.hid hx
        have HXO := Lib.hid ((HS.out.es.ok x (List.mem_of_getElem? hx)).up HS.out.be.size)
        have HG := Lib.hid (Ed.big_any x wr HXO.out)
        obtain ⟨big, hbig⟩ : ∃ b, b = bigX x := ⟨_, rfl⟩
        rw [← hbig] at HG
        clear hx hbig
        go_wp2_with fail
        refine HG.out.mono ?_
        rintro e W3 ⟨rfl, hb3⟩
        have HST := Lib.hid (HS.out.below hb3)
        have HX3 := Lib.hid (HXO.out.next hb3)
        have HB3 := Lib.hid (HS.out.be.trans (hb3.mono HS.out.be.size))
        clear hb3 HG HS HXO ql q0 q1 q2 q3 q4
        rcases big with _ | _
        case true =>
          go_wp2_with fail
          go_ret
          exact ⟨rfl, HB3.out⟩
        case false =>
        go_upto_region 12 with fail
        obtain ⟨er, her⟩ : ∃ er, er = (applyV y.t x.e).1 := ⟨_, rfl⟩
        have HER := Lib.hid her
        clear her HB3
        generalize W3 = W0 at *
        go_cut [8, 9] (fun pv ev wx => ∃ (g : Nat) (a : Y), pv = .pointer (some ⟨g, 0, none⟩) ∧ ev = .int .i64 (((applyV y.t x.e).1 : Nat) : Int) ∧ a.t = (applyV y.t x.e).2 ∧ Box wx g 44 a.cells ∧ a.Ok wx wx.heap.size ∧ Below W0.heap.size W0 wx ∧ W0.heap.size ≤ g)
        case first =>
          refine wp_region_held_drew (S := (fun w' => Hid (Below W0.heap.size W0 w'))) (by kernel_rfl) (Lib.hid (Below.refl _ _).drew) (fun hS => ?_)
          have HBD : Hid (Below W0.heap.size W0 W0.drew) := Lib.hid (Below.refl _ _).drew
          refine wpAnyH_take (i := 0) (v := ?_) rfl (by kernel_rfl) (by kernel_rfl) (by kernel_rfl) (fun _ _ _ h => h) (Or.inl ⟨by rfl, ?_⟩) hS ?_
          rotate_left
          · intro wi hw
            have q := load_box (HST.out.b1.below hw.out HST.out.b1.lt)
            obtain ⟨k0, k1, k2, k3⟩ := Ve.look (HST.out.b1.below hw.out HST.out.b1.lt)
            go_simp
            try with_reducible rfl
          try simp only [Act.put, List.getElem_toArray, List.getElem_cons_succ, List.getElem_cons_zero, List.setIfInBounds_toArray, List.set_cons_zero, List.set_cons_succ]
          refine wpAnyH_take (i := 1) (v := ?_) rfl (by kernel_rfl) (by kernel_rfl) (by kernel_rfl) (fun _ _ _ h => h) (Or.inl ⟨by rfl, ?_⟩) hS ?_
          rotate_left
          · intro wi hw
            go_simp
            try with_reducible rfl
          try simp only [Act.put, List.getElem_toArray, List.getElem_cons_succ, List.getElem_cons_zero, List.setIfInBounds_toArray, List.set_cons_zero, List.set_cons_succ]
          refine wpAnyH_take (i := 2) (v := ?_) rfl (by kernel_rfl) (by kernel_rfl) (by kernel_rfl) (fun _ _ _ h => h) (Or.inl ⟨by rfl, ?_⟩) hS ?_
          rotate_left
          · intro wi hw
            go_simp
            try with_reducible rfl
          try simp only [Act.put, List.getElem_toArray, List.getElem_cons_succ, List.getElem_cons_zero, List.setIfInBounds_toArray, List.set_cons_zero, List.set_cons_succ]
          refine wpAnyH_take (i := 3) (v := ?_) rfl (by kernel_rfl) (by kernel_rfl) (by kernel_rfl) (fun _ _ _ h => h) (Or.inl ⟨by rfl, ?_⟩) hS ?_
          rotate_left
          · intro wi hw
            go_simp
            try with_reducible rfl
          try simp only [Act.put, List.getElem_toArray, List.getElem_cons_succ, List.getElem_cons_zero, List.setIfInBounds_toArray, List.set_cons_zero, List.set_cons_succ]
          refine wpAnyH_take (i := 4) (v := ?_) rfl (by kernel_rfl) (by kernel_rfl) (by kernel_rfl) (fun _ _ _ h => h) (Or.inl ⟨by rfl, ?_⟩) hS ?_
          rotate_left
          · intro wi hw
            have hES := HST.out.es.below (hw.out.mono HST.out.be.size)
            obtain ⟨ad', p', e', -, hpp', q0, q1, q2, q3, q4⟩ := hES.place HXK.out
            injection e' with e'
            subst e'
            rw [hpp] at hpp'
            subst hpp'
            have ql := load_edit q0 q1 q2 q3 q4
            go_simp
            try with_reducible rfl
          try simp only [Act.put, List.getElem_toArray, List.getElem_cons_succ, List.getElem_cons_zero, List.setIfInBounds_toArray, List.set_cons_zero, List.set_cons_succ]
          refine wpAnyH_ready (rs := [5, 9]) (by kernel_rfl) (by simp) ?_
          refine (AllReadyH.cons rfl (fun K hK => ?_) (AllReadyH.cons rfl (fun K hK => ?_) AllReadyH.nil))
          · go_simp
            refine (vapply_any y x W0.drew (HST.out.oy.next HBD.out) (HX3.out.next HBD.out)).mono ?_
            rintro e W5 ⟨a, rfl, hat, hao, hb5⟩
            have HB5 : Hid (Below W0.heap.size W0 W5) := Lib.hid (HBD.out.trans (hb5.mono HBD.out.size))
            have HA5 := Lib.hid hao
            have HAT := Lib.hid hat
            refine hK.out _ _ HB5 (fun hS => ?_)
            clear hK K hb5 hao hat
            try simp only [Act.put, List.getElem_toArray, List.getElem_cons_succ, List.getElem_cons_zero, List.setIfInBounds_toArray, List.set_cons_zero, List.set_cons_succ]
            refine wpAnyH_take (i := 6) (v := ?_) rfl (by kernel_rfl) (by kernel_rfl) (by kernel_rfl) (fun _ _ _ h => h) (Or.inl ⟨by rfl, ?_⟩) hS ?_
            rotate_left
            · intro wi hw
              go_simp
              try with_reducible rfl
            try simp only [Act.put, List.getElem_toArray, List.getElem_cons_succ, List.getElem_cons_zero, List.setIfInBounds_toArray, List.set_cons_zero, List.set_cons_succ]
            refine wpAnyH_take (i := 7) (v := ?_) rfl (by kernel_rfl) (by kernel_rfl) (by kernel_rfl) (fun _ _ _ h => h) (Or.inl ⟨by rfl, ?_⟩) hS ?_
            rotate_left
            · intro wi hw
              go_simp
              try with_reducible rfl
            try simp only [Act.put, List.getElem_toArray, List.getElem_cons_succ, List.getElem_cons_zero, List.setIfInBounds_toArray, List.set_cons_zero, List.set_cons_succ]
            refine wpAnyH_take (i := 8) (v := ?_) rfl (by kernel_rfl) (by kernel_rfl) (by kernel_rfl) (fun _ _ _ h => h) (Or.inl ⟨by rfl, ?_⟩) hS ?_
            rotate_left
            · intro wi hw
              go_simp
              try with_reducible rfl
            try simp only [Act.put, List.getElem_toArray, List.getElem_cons_succ, List.getElem_cons_zero, List.setIfInBounds_toArray, List.set_cons_zero, List.set_cons_succ]
            refine wpAnyH_ready (rs := [9]) (by kernel_rfl) (by simp) ?_
            refine (AllReadyH.cons rfl (fun K hK => ?_) AllReadyH.nil)
            go_simp
            have hba := Joins.below_alloc1 W5 (.cells #[.slice none 0 0, .int .i64 0, .int .i64 0, .int .u64 0] 44)
            have HB6 : Hid (Below W0.heap.size W0 (W5.alloc (.cells #[.slice none 0 0, .int .i64 0, .int .i64 0, .int .u64 0] 44))) := Lib.hid (HB5.out.trans (hba.mono HB5.out.size))
            have HZ6 : Hid (Box (W5.alloc (.cells #[.slice none 0 0, .int .i64 0, .int .i64 0, .int .u64 0] 44)) W5.heap.size 44 ZV.cells) := Lib.hid (Box.new W5 44 ZV.cells)
            have HA6 := Lib.hid (HA5.out.next hba)
            have HGE : Hid (W0.heap.size ≤ W5.heap.size) := Lib.hid HB5.out.size
            clear hba
            refine hK.out _ _ HB6 (fun hS => ?_)
            clear hK K
            try simp only [Act.put, List.getElem_toArray, List.getElem_cons_succ, List.getElem_cons_zero, List.setIfInBounds_toArray, List.set_cons_zero, List.set_cons_succ]
            generalize W5.alloc (.cells #[.slice none 0 0, .int .i64 0, .int .i64 0, .int .u64 0] 44) = W6 at *
            generalize W5.heap.size = g6 at *
            refine wpAnyH_ready (rs := [10]) (by kernel_rfl) (by simp) ?_
            refine (AllReadyH.cons rfl (fun K hK => ?_) AllReadyH.nil)
            have HBX : Hid (Box (W6.setRow g6 a.cells.toArray) g6 44 a.cells) := Lib.hid (setRow_heap _ _ _ _ _ _ HZ6.out)
            have HA7 : Hid (a.Ok (W6.setRow g6 a.cells.toArray) (W6.setRow g6 a.cells.toArray).heap.size) := Lib.hid (HA6.out.poke (vbox_of HZ6.out) (Ve.keep_setRow _ _ _))
            have HB7 : Hid (Below W0.heap.size W0 (W6.setRow g6 a.cells.toArray)) := Lib.hid (below_setRow HB6.out HGE.out _)
            refine held_store rfl _ _ _ rfl g6 #[.slice a.a a.runs.length a.c, .int .i64 a.next, .int .i64 a.log, .int .u64 (a.seq : Int)] rfl rfl _ ZV.cells.toArray HZ6.out (by kernel_rfl) rfl (by kernel_rfl) ?_
            refine hK.out _ _ HB7 (fun hS => ?_)
            clear hK K
            try simp only [Act.put, List.getElem_toArray, List.getElem_cons_succ, List.getElem_cons_zero, List.setIfInBounds_toArray, List.set_cons_zero, List.set_cons_succ]
            refine wpAnyH_take (i := 11) (v := ?_) rfl (by kernel_rfl) (by kernel_rfl) (by kernel_rfl) (fun _ _ _ h => h) (Or.inl ⟨by rfl, ?_⟩) hS ?_
            rotate_left
            · intro wi hw
              go_simp
              try with_reducible rfl
            try simp only [Act.put, List.getElem_toArray, List.getElem_cons_succ, List.getElem_cons_zero, List.setIfInBounds_toArray, List.set_cons_zero, List.set_cons_succ]
            refine wpAnyH_done (by kernel_rfl) ?_ _
            go_wp2_with fail
            go_meet
            exact ⟨g6, a, rfl, rfl, HAT.out, HBX.out, HA7.out, HB7.out, HGE.out⟩
          · go_simp
            have HB4 : Hid (Below W0.heap.size W0 (W0.alloc (.cells #[.slice none 0 0, .int .i64 0, .int .i64 0, .int .u64 0] 44)).drew) := Lib.hid (Joins.below_alloc1 W0 (.cells #[.slice none 0 0, .int .i64 0, .int .i64 0, .int .u64 0] 44)).drew
            have HZ4 : Hid (Box (W0.alloc (.cells #[.slice none 0 0, .int .i64 0, .int .i64 0, .int .u64 0] 44)).drew W0.heap.size 44 ZV.cells) := Lib.hid (Box.new W0 44 ZV.cells)
            have HGE : Hid (W0.heap.size ≤ W0.heap.size) := Lib.hid (Nat.le_refl _)
            refine hK.out _ _ HB4 (fun hS => ?_)
            clear hK K
            try simp only [Act.put, List.getElem_toArray, List.getElem_cons_succ, List.getElem_cons_zero, List.setIfInBounds_toArray, List.set_cons_zero, List.set_cons_succ]
            generalize hW4 : (W0.alloc (.cells #[.slice none 0 0, .int .i64 0, .int .i64 0, .int .u64 0] 44)).drew = W4 at *
            clear hW4
            refine wpAnyH_ready (rs := [5]) (by kernel_rfl) (by simp) ?_
            refine (AllReadyH.cons rfl (fun K hK => ?_) AllReadyH.nil)
            go_simp
            refine (vapply_any y x W4 (HST.out.oy.next HB4.out) (HX3.out.next HB4.out)).mono ?_
            rintro e W6 ⟨a, rfl, hat, hao, hb5⟩
            have HB6 : Hid (Below W0.heap.size W0 W6) := Lib.hid (HB4.out.trans (hb5.mono HB4.out.size))
            have HZ6 := Lib.hid (HZ4.out.below hb5 HZ4.out.lt)
            have HA6 := Lib.hid hao
            have HAT := Lib.hid hat
            refine hK.out _ _ HB6 (fun hS => ?_)
            clear hK K hb5 hao hat
            try simp only [Act.put, List.getElem_toArray, List.getElem_cons_succ, List.getElem_cons_zero, List.setIfInBounds_toArray, List.set_cons_zero, List.set_cons_succ]
            refine wpAnyH_take (i := 6) (v := ?_) rfl (by kernel_rfl) (by kernel_rfl) (by kernel_rfl) (fun _ _ _ h => h) (Or.inl ⟨by rfl, ?_⟩) hS ?_
            rotate_left
            · intro wi hw
              go_simp
              try with_reducible rfl
            try simp only [Act.put, List.getElem_toArray, List.getElem_cons_succ, List.getElem_cons_zero, List.setIfInBounds_toArray, List.set_cons_zero, List.set_cons_succ]
            refine wpAnyH_take (i := 7) (v := ?_) rfl (by kernel_rfl) (by kernel_rfl) (by kernel_rfl) (fun _ _ _ h => h) (Or.inl ⟨by rfl, ?_⟩) hS ?_
            rotate_left
            · intro wi hw
              go_simp
              try with_reducible rfl
            try simp only [Act.put, List.getElem_toArray, List.getElem_cons_succ, List.getElem_cons_zero, List.setIfInBounds_toArray, List.set_cons_zero, List.set_cons_succ]
            refine wpAnyH_take (i := 8) (v := ?_) rfl (by kernel_rfl) (by kernel_rfl) (by kernel_rfl) (fun _ _ _ h => h) (Or.inl ⟨by rfl, ?_⟩) hS ?_
            rotate_left
            · intro wi hw
              go_simp
              try with_reducible rfl
            try simp only [Act.put, List.getElem_toArray, List.getElem_cons_succ, List.getElem_cons_zero, List.setIfInBounds_toArray, List.set_cons_zero, List.set_cons_succ]
            refine wpAnyH_ready (rs := [10]) (by kernel_rfl) (by simp) ?_
            refine (AllReadyH.cons rfl (fun K hK => ?_) AllReadyH.nil)
            have HBX : Hid (Box (W6.setRow W0.heap.size a.cells.toArray) W0.heap.size 44 a.cells) := Lib.hid (setRow_heap _ _ _ _ _ _ HZ6.out)
            have HA7 : Hid (a.Ok (W6.setRow W0.heap.size a.cells.toArray) (W6.setRow W0.heap.size a.cells.toArray).heap.size) := Lib.hid (HA6.out.poke (vbox_of HZ6.out) (Ve.keep_setRow _ _ _))
            have HB7 : Hid (Below W0.heap.size W0 (W6.setRow W0.heap.size a.cells.toArray)) := Lib.hid (below_setRow HB6.out HGE.out _)
            refine held_store rfl _ _ _ rfl W0.heap.size #[.slice a.a a.runs.length a.c, .int .i64 a.next, .int .i64 a.log, .int .u64 (a.seq : Int)] rfl rfl _ ZV.cells.toArray HZ6.out (by kernel_rfl) rfl (by kernel_rfl) ?_
            refine hK.out _ _ HB7 (fun hS => ?_)
            clear hK K
            try simp only [Act.put, List.getElem_toArray, List.getElem_cons_succ, List.getElem_cons_zero, List.setIfInBounds_toArray, List.set_cons_zero, List.set_cons_succ]
            refine wpAnyH_take (i := 11) (v := ?_) rfl (by kernel_rfl) (by kernel_rfl) (by kernel_rfl) (fun _ _ _ h => h) (Or.inl ⟨by rfl, ?_⟩) hS ?_
            rotate_left
            · intro wi hw
              go_simp
              try with_reducible rfl
            try simp only [Act.put, List.getElem_toArray, List.getElem_cons_succ, List.getElem_cons_zero, List.setIfInBounds_toArray, List.set_cons_zero, List.set_cons_succ]
            refine wpAnyH_done (by kernel_rfl) ?_ _
            go_wp2_with fail
            go_meet
            exact ⟨W0.heap.size, a, rfl, rfl, HAT.out, HBX.out, HA7.out, HB7.out, HGE.out⟩
        case rest =>
        obtain ⟨g3, a, rfl, rfl, hat, hbx, hao, hbw, hge⟩ := hcut
        rw [← HER.out]
        have HST2 := Lib.hid (HST.out.below hbw)
        have HX4 := Lib.hid (HX3.out.next hbw)
        have HA := Lib.hid hao
        have HBA := Lib.hid hbx
        have HAT := Lib.hid hat
        have HEZ : Hid (er = (applyV z.t x.e).1) := Lib.hid (by rw [HER.out, HST.out.te])
        clear hat hbx hao hbw hge HST HX3
        generalize wc = W0 at *
        have HST := Lib.hid HST2.out
        have HX3 := Lib.hid HX4.out
        clear HST2 HX4
        go_upto_region 13 with fail
        go_cut [10, 11] (fun pv ev wx => ∃ (g : Nat) (a : Y), pv = .pointer (some ⟨g, 0, none⟩) ∧ ev = .int .i64 (((applyV z.t x.e).1 : Nat) : Int) ∧ a.t = (applyV z.t x.e).2 ∧ Box wx g 44 a.cells ∧ a.Ok wx wx.heap.size ∧ Below W0.heap.size W0 wx ∧ W0.heap.size ≤ g)
        case first =>
          refine wp_region_held_drew (S := (fun w' => Hid (Below W0.heap.size W0 w'))) (by kernel_rfl) (Lib.hid (Below.refl _ _).drew) (fun hS => ?_)
          have HBD : Hid (Below W0.heap.size W0 W0.drew) := Lib.hid (Below.refl _ _).drew
          refine wpAnyH_take (i := 0) (v := ?_) rfl (by kernel_rfl) (by kernel_rfl) (by kernel_rfl) (fun _ _ _ h => h) (Or.inl ⟨by rfl, ?_⟩) hS ?_
          rotate_left
          · intro wi hw
            have q := load_box (HST.out.b2.below hw.out HST.out.b2.lt)
            obtain ⟨k0, k1, k2, k3⟩ := Ve.look (HST.out.b2.below hw.out HST.out.b2.lt)
            go_simp
            try with_reducible rfl
          try simp only [Act.put, List.getElem_toArray, List.getElem_cons_succ, List.getElem_cons_zero, List.setIfInBounds_toArray, List.set_cons_zero, List.set_cons_succ]
          refine wpAnyH_take (i := 1) (v := ?_) rfl (by kernel_rfl) (by kernel_rfl) (by kernel_rfl) (fun _ _ _ h => h) (Or.inl ⟨by rfl, ?_⟩) hS ?_
          rotate_left
          · intro wi hw
            go_simp
            try with_reducible rfl
          try simp only [Act.put, List.getElem_toArray, List.getElem_cons_succ, List.getElem_cons_zero, List.setIfInBounds_toArray, List.set_cons_zero, List.set_cons_succ]
          refine wpAnyH_take (i := 2) (v := ?_) rfl (by kernel_rfl) (by kernel_rfl) (by kernel_rfl) (fun _ _ _ h => h) (Or.inl ⟨by rfl, ?_⟩) hS ?_
          rotate_left
          · intro wi hw
            go_simp
            try with_reducible rfl
          try simp only [Act.put, List.getElem_toArray, List.getElem_cons_succ, List.getElem_cons_zero, List.setIfInBounds_toArray, List.set_cons_zero, List.set_cons_succ]
          refine wpAnyH_take (i := 3) (v := ?_) rfl (by kernel_rfl) (by kernel_rfl) (by kernel_rfl) (fun _ _ _ h => h) (Or.inl ⟨by rfl, ?_⟩) hS ?_
          rotate_left
          · intro wi hw
            go_simp
            try with_reducible rfl
          try simp only [Act.put, List.getElem_toArray, List.getElem_cons_succ, List.getElem_cons_zero, List.setIfInBounds_toArray, List.set_cons_zero, List.set_cons_succ]
          refine wpAnyH_take (i := 4) (v := ?_) rfl (by kernel_rfl) (by kernel_rfl) (by kernel_rfl) (fun _ _ _ h => h) (Or.inl ⟨by rfl, ?_⟩) hS ?_
          rotate_left
          · intro wi hw
            have hES := HST.out.es.below (hw.out.mono HST.out.be.size)
            obtain ⟨ad', p', e', -, hpp', q0, q1, q2, q3, q4⟩ := hES.place HXK.out
            injection e' with e'
            subst e'
            rw [hpp] at hpp'
            subst hpp'
            have ql := load_edit q0 q1 q2 q3 q4
            go_simp
            try with_reducible rfl
          try simp only [Act.put, List.getElem_toArray, List.getElem_cons_succ, List.getElem_cons_zero, List.setIfInBounds_toArray, List.set_cons_zero, List.set_cons_succ]
          refine wpAnyH_ready (rs := [5, 9]) (by kernel_rfl) (by simp) ?_
          refine (AllReadyH.cons rfl (fun K hK => ?_) (AllReadyH.cons rfl (fun K hK => ?_) AllReadyH.nil))
          · go_simp
            refine (rapply_any z x W0.drew (HST.out.oz.next HBD.out) (HX3.out.next HBD.out)).mono ?_
            rintro e W5 ⟨a, rfl, hat, hao, hb5⟩
            have HB5 : Hid (Below W0.heap.size W0 W5) := Lib.hid (HBD.out.trans (hb5.mono HBD.out.size))
            have HA5 := Lib.hid hao
            have HAT := Lib.hid hat
            refine hK.out _ _ HB5 (fun hS => ?_)
            clear hK K hb5 hao hat
            try simp only [Act.put, List.getElem_toArray, List.getElem_cons_succ, List.getElem_cons_zero, List.setIfInBounds_toArray, List.set_cons_zero, List.set_cons_succ]
            refine wpAnyH_take (i := 6) (v := ?_) rfl (by kernel_rfl) (by kernel_rfl) (by kernel_rfl) (fun _ _ _ h => h) (Or.inl ⟨by rfl, ?_⟩) hS ?_
            rotate_left
            · intro wi hw
              go_simp
              try with_reducible rfl
            try simp only [Act.put, List.getElem_toArray, List.getElem_cons_succ, List.getElem_cons_zero, List.setIfInBounds_toArray, List.set_cons_zero, List.set_cons_succ]
            refine wpAnyH_take (i := 7) (v := ?_) rfl (by kernel_rfl) (by kernel_rfl) (by kernel_rfl) (fun _ _ _ h => h) (Or.inl ⟨by rfl, ?_⟩) hS ?_
            rotate_left
            · intro wi hw
              go_simp
              try with_reducible rfl
            try simp only [Act.put, List.getElem_toArray, List.getElem_cons_succ, List.getElem_cons_zero, List.setIfInBounds_toArray, List.set_cons_zero, List.set_cons_succ]
            refine wpAnyH_take (i := 8) (v := ?_) rfl (by kernel_rfl) (by kernel_rfl) (by kernel_rfl) (fun _ _ _ h => h) (Or.inl ⟨by rfl, ?_⟩) hS ?_
            rotate_left
            · intro wi hw
              go_simp
              try with_reducible rfl
            try simp only [Act.put, List.getElem_toArray, List.getElem_cons_succ, List.getElem_cons_zero, List.setIfInBounds_toArray, List.set_cons_zero, List.set_cons_succ]
            refine wpAnyH_ready (rs := [9]) (by kernel_rfl) (by simp) ?_
            refine (AllReadyH.cons rfl (fun K hK => ?_) AllReadyH.nil)
            go_simp
            have hba := Joins.below_alloc1 W5 (.cells #[.slice none 0 0, .int .i64 0, .int .i64 0, .int .u64 0] 44)
            have HB6 : Hid (Below W0.heap.size W0 (W5.alloc (.cells #[.slice none 0 0, .int .i64 0, .int .i64 0, .int .u64 0] 44))) := Lib.hid (HB5.out.trans (hba.mono HB5.out.size))
            have HZ6 : Hid (Box (W5.alloc (.cells #[.slice none 0 0, .int .i64 0, .int .i64 0, .int .u64 0] 44)) W5.heap.size 44 ZV.cells) := Lib.hid (Box.new W5 44 ZV.cells)
            have HA6 := Lib.hid (HA5.out.next hba)
            have HGE : Hid (W0.heap.size ≤ W5.heap.size) := Lib.hid HB5.out.size
            clear hba
            refine hK.out _ _ HB6 (fun hS => ?_)
            clear hK K
            try simp only [Act.put, List.getElem_toArray, List.getElem_cons_succ, List.getElem_cons_zero, List.setIfInBounds_toArray, List.set_cons_zero, List.set_cons_succ]
            generalize W5.alloc (.cells #[.slice none 0 0, .int .i64 0, .int .i64 0, .int .u64 0] 44) = W6 at *
            generalize W5.heap.size = g6 at *
            refine wpAnyH_ready (rs := [10]) (by kernel_rfl) (by simp) ?_
            refine (AllReadyH.cons rfl (fun K hK => ?_) AllReadyH.nil)
            have HBX : Hid (Box (W6.setRow g6 a.cells.toArray) g6 44 a.cells) := Lib.hid (setRow_heap _ _ _ _ _ _ HZ6.out)
            have HA7 : Hid (a.Ok (W6.setRow g6 a.cells.toArray) (W6.setRow g6 a.cells.toArray).heap.size) := Lib.hid (HA6.out.poke (vbox_of HZ6.out) (Ve.keep_setRow _ _ _))
            have HB7 : Hid (Below W0.heap.size W0 (W6.setRow g6 a.cells.toArray)) := Lib.hid (below_setRow HB6.out HGE.out _)
            refine held_store rfl _ _ _ rfl g6 #[.slice a.a a.runs.length a.c, .int .i64 a.next, .int .i64 a.log, .int .u64 (a.seq : Int)] rfl rfl _ ZV.cells.toArray HZ6.out (by kernel_rfl) rfl (by kernel_rfl) ?_
            refine hK.out _ _ HB7 (fun hS => ?_)
            clear hK K
            try simp only [Act.put, List.getElem_toArray, List.getElem_cons_succ, List.getElem_cons_zero, List.setIfInBounds_toArray, List.set_cons_zero, List.set_cons_succ]
            refine wpAnyH_take (i := 11) (v := ?_) rfl (by kernel_rfl) (by kernel_rfl) (by kernel_rfl) (fun _ _ _ h => h) (Or.inl ⟨by rfl, ?_⟩) hS ?_
            rotate_left
            · intro wi hw
              go_simp
              try with_reducible rfl
            try simp only [Act.put, List.getElem_toArray, List.getElem_cons_succ, List.getElem_cons_zero, List.setIfInBounds_toArray, List.set_cons_zero, List.set_cons_succ]
            refine wpAnyH_done (by kernel_rfl) ?_ _
            go_wp2_with fail
            go_meet
            exact ⟨g6, a, rfl, rfl, HAT.out, HBX.out, HA7.out, HB7.out, HGE.out⟩
          · go_simp
            have HB4 : Hid (Below W0.heap.size W0 (W0.alloc (.cells #[.slice none 0 0, .int .i64 0, .int .i64 0, .int .u64 0] 44)).drew) := Lib.hid (Joins.below_alloc1 W0 (.cells #[.slice none 0 0, .int .i64 0, .int .i64 0, .int .u64 0] 44)).drew
            have HZ4 : Hid (Box (W0.alloc (.cells #[.slice none 0 0, .int .i64 0, .int .i64 0, .int .u64 0] 44)).drew W0.heap.size 44 ZV.cells) := Lib.hid (Box.new W0 44 ZV.cells)
            have HGE : Hid (W0.heap.size ≤ W0.heap.size) := Lib.hid (Nat.le_refl _)
            refine hK.out _ _ HB4 (fun hS => ?_)
            clear hK K
            try simp only [Act.put, List.getElem_toArray, List.getElem_cons_succ, List.getElem_cons_zero, List.setIfInBounds_toArray, List.set_cons_zero, List.set_cons_succ]
            generalize hW4 : (W0.alloc (.cells #[.slice none 0 0, .int .i64 0, .int .i64 0, .int .u64 0] 44)).drew = W4 at *
            clear hW4
            refine wpAnyH_ready (rs := [5]) (by kernel_rfl) (by simp) ?_
            refine (AllReadyH.cons rfl (fun K hK => ?_) AllReadyH.nil)
            go_simp
            refine (rapply_any z x W4 (HST.out.oz.next HB4.out) (HX3.out.next HB4.out)).mono ?_
            rintro e W6 ⟨a, rfl, hat, hao, hb5⟩
            have HB6 : Hid (Below W0.heap.size W0 W6) := Lib.hid (HB4.out.trans (hb5.mono HB4.out.size))
            have HZ6 := Lib.hid (HZ4.out.below hb5 HZ4.out.lt)
            have HA6 := Lib.hid hao
            have HAT := Lib.hid hat
            refine hK.out _ _ HB6 (fun hS => ?_)
            clear hK K hb5 hao hat
            try simp only [Act.put, List.getElem_toArray, List.getElem_cons_succ, List.getElem_cons_zero, List.setIfInBounds_toArray, List.set_cons_zero, List.set_cons_succ]
            refine wpAnyH_take (i := 6) (v := ?_) rfl (by kernel_rfl) (by kernel_rfl) (by kernel_rfl) (fun _ _ _ h => h) (Or.inl ⟨by rfl, ?_⟩) hS ?_
            rotate_left
            · intro wi hw
              go_simp
              try with_reducible rfl
            try simp only [Act.put, List.getElem_toArray, List.getElem_cons_succ, List.getElem_cons_zero, List.setIfInBounds_toArray, List.set_cons_zero, List.set_cons_succ]
            refine wpAnyH_take (i := 7) (v := ?_) rfl (by kernel_rfl) (by kernel_rfl) (by kernel_rfl) (fun _ _ _ h => h) (Or.inl ⟨by rfl, ?_⟩) hS ?_
            rotate_left
            · intro wi hw
              go_simp
              try with_reducible rfl
            try simp only [Act.put, List.getElem_toArray, List.getElem_cons_succ, List.getElem_cons_zero, List.setIfInBounds_toArray, List.set_cons_zero, List.set_cons_succ]
            refine wpAnyH_take (i := 8) (v := ?_) rfl (by kernel_rfl) (by kernel_rfl) (by kernel_rfl) (fun _ _ _ h => h) (Or.inl ⟨by rfl, ?_⟩) hS ?_
            rotate_left
            · intro wi hw
              go_simp
              try with_reducible rfl
            try simp only [Act.put, List.getElem_toArray, List.getElem_cons_succ, List.getElem_cons_zero, List.setIfInBounds_toArray, List.set_cons_zero, List.set_cons_succ]
            refine wpAnyH_ready (rs := [10]) (by kernel_rfl) (by simp) ?_
            refine (AllReadyH.cons rfl (fun K hK => ?_) AllReadyH.nil)
            have HBX : Hid (Box (W6.setRow W0.heap.size a.cells.toArray) W0.heap.size 44 a.cells) := Lib.hid (setRow_heap _ _ _ _ _ _ HZ6.out)
            have HA7 : Hid (a.Ok (W6.setRow W0.heap.size a.cells.toArray) (W6.setRow W0.heap.size a.cells.toArray).heap.size) := Lib.hid (HA6.out.poke (vbox_of HZ6.out) (Ve.keep_setRow _ _ _))
            have HB7 : Hid (Below W0.heap.size W0 (W6.setRow W0.heap.size a.cells.toArray)) := Lib.hid (below_setRow HB6.out HGE.out _)
            refine held_store rfl _ _ _ rfl W0.heap.size #[.slice a.a a.runs.length a.c, .int .i64 a.next, .int .i64 a.log, .int .u64 (a.seq : Int)] rfl rfl _ ZV.cells.toArray HZ6.out (by kernel_rfl) rfl (by kernel_rfl) ?_
            refine hK.out _ _ HB7 (fun hS => ?_)
            clear hK K
            try simp only [Act.put, List.getElem_toArray, List.getElem_cons_succ, List.getElem_cons_zero, List.setIfInBounds_toArray, List.set_cons_zero, List.set_cons_succ]
            refine wpAnyH_take (i := 11) (v := ?_) rfl (by kernel_rfl) (by kernel_rfl) (by kernel_rfl) (fun _ _ _ h => h) (Or.inl ⟨by rfl, ?_⟩) hS ?_
            rotate_left
            · intro wi hw
              go_simp
              try with_reducible rfl
            try simp only [Act.put, List.getElem_toArray, List.getElem_cons_succ, List.getElem_cons_zero, List.setIfInBounds_toArray, List.set_cons_zero, List.set_cons_succ]
            refine wpAnyH_done (by kernel_rfl) ?_ _
            go_wp2_with fail
            go_meet
            exact ⟨W0.heap.size, a, rfl, rfl, HAT.out, HBX.out, HA7.out, HB7.out, HGE.out⟩
        case rest =>
        obtain ⟨g4, b, rfl, rfl, hbt, hby, hbo, hbw, hge⟩ := hcut
        rw [← HEZ.out]
        have HST2 := Lib.hid (HST.out.below hbw)
        have HA2 := Lib.hid (HA.out.next hbw)
        have HBA2 := Lib.hid (HBA.out.below hbw HBA.out.lt)
        have HBB := Lib.hid hby
        have HB := Lib.hid hbo
        have HE2 : Hid (a.t = b.t) := Lib.hid (by rw [HAT.out, hbt, HST.out.te])
        have HSM : Hid (a.runs.length ≤ 1000000) := Lib.hid (by
          have h1 := congrArg (fun v : V => v.runs.length) HAT.out
          have h2 : a.t.runs.length = a.runs.length := by unfold Y.t; simp
          have h3 := apply_few y.t x.e
          change a.t.runs.length = (applyV y.t x.e).2.runs.length at h1
          omega)
        have HSE := Lib.hid (same_version (w := wc) HA2.out HB.out HE2.out HSM.out)
        have q8 := load_box HBA2.out
        obtain ⟨a0, a1, a2, a3⟩ := Ve.look HBA2.out
        have q10 := load_box HBB.out
        obtain ⟨b0, b1, b2, b3⟩ := Ve.look HBB.out
        have e2 : ((er : Int) != (er : Int)) = false := by simp
        have HG4 : Hid (g4 ≠ g1) := Lib.hid (by have := HST.out.b1.lt; omega)
        clear hbt hby hbo hbw hge HST HA HBA HX3
        go_upto_region 14 with fail
        go_wp2_with ((go_at_call 27; refine (vnum_any _ _).mono ?_; rintro e w' ⟨rfl, rfl⟩))
        refine HSE.out.mono ?_
        rintro e W6 ⟨rfl, hb6⟩
        have HST3 := Lib.hid (HST2.out.below hb6)
        have HA3 := Lib.hid (HA2.out.next hb6)
        have HB3 := Lib.hid (HB.out.next hb6)
        have HBA3 := Lib.hid (HBA2.out.below hb6 HBA2.out.lt)
        have HBB3 := Lib.hid (HBB.out.below hb6 HBB.out.lt)
        clear hb6 HST2 HA2 HBA2 HBB HB HSE q8 q10 a0 a1 a2 a3 b0 b1 b2 b3
        by_cases h0 : er = 0
        · have t0 : ((er : Int) == 0) = true := by rw [beq_iff_eq]; omega
          have t1 : (er == 0) = true := by rw [beq_iff_eq]; exact h0
          have k1 := Ve.keep_setRow W6 g1 a.cells.toArray
          have HBB4 := Lib.hid (HBB3.out.keep k1 HG4.out)
          have HB24 := Lib.hid (HST3.out.b2.keep k1 fun e => HST3.out.ne e.symm)
          have HST4 := Lib.hid (HST3.out.put HA3.out HB3.out HE2.out HSM.out)
          clear k1 h0
          go_wp2_with (first | (refine wpList_load_row rfl _ _ rfl g3 rfl _ a.cells.toArray (0, 0) _ HBA3.out Try.underlying44 rfl (by kernel_rfl) ?_) | (refine wpList_store_row rfl _ _ _ rfl g1 a.cells.toArray rfl rfl _ y.cells.toArray HST3.out.b1 (by kernel_rfl) rfl (by kernel_rfl) ?_) | (refine wpList_load_row rfl _ _ rfl g4 rfl _ b.cells.toArray (0, 0) _ HBB4.out Try.underlying44 rfl (by kernel_rfl) ?_) | (refine wpList_store_row rfl _ _ _ rfl g2 b.cells.toArray rfl rfl _ z.cells.toArray HB24.out (by kernel_rfl) rfl (by kernel_rfl) ?_))
          go_roundw
          case rel => exact ⟨k + 1, a, b, by omega, by go_num, HST4⟩
          case measure => simp [intOf]; omega
        · have t0 : ((er : Int) == 0) = false := by rw [beq_eq_false_iff_ne]; omega
          have t1 : (er == 0) = false := by rw [beq_eq_false_iff_ne]; exact h0
          clear h0
          go_wp2_with fail
          go_roundw
          case rel => exact ⟨k + 1, y, z, by omega, by go_num, HST3⟩
          case measure => simp [intOf]; omega
      · obtain rfl : k = L.length := by omega
        go_wp2_with fail
        go_ret
        exact ⟨rfl, HS.out.be⟩

set_option maxRecDepth 100000 in
theorem lifted (os : Os) (started : os.Started) (H : Type) (enc : TypeId × Value → H) :
    ReturnsInHanded {} Try.checked os 8 .any (Rows.versionRowsSpec.pre6 enc Try.prog Try.f8 Rows.versionRowsRow.domain false) (Rows.versionRowsSpec.post enc Try.prog Try.f8 false true false false) := by
  refine lift_true (C := Try.checked) own started (by kernel_rfl) Try.func8
    (ChangeSpec.witness6 (enc := enc) (C := Try.checked) false ⟨#[], #[.slice none 0 0], []⟩ 8 (by kernel_rfl) (by kernel_rfl) (by kernel_rfl) (by kernel_rfl))
    (by kernel_rfl) (by kernel_rfl) (by kernel_rfl) Try.underlying4 rfl ?_ ?_
  · intro ds hds
    match ds, hds with
    | [d1], _ => exact ⟨rfl, rfl, rfl⟩
  · intro W base args ds p hval0 hA0 hlt _
    have hval : ∀ (j : Nat) t v, Try.f8.params[j]? = some t → args[j]? = some v → Value.okWide Try.prog W .any base t v := hval0
    have hA : DataW.TrodAll enc Try.prog W 0 (fun _ => true) true Try.f8.params.toList args.toList ds p := hA0
    rw [Try.params8] at hA hval
    obtain ⟨v0, vs0, d0, ds0, p0, q0, hargs, rfl, rfl, h0, r0⟩ := trodAll_cons hA
    obtain ⟨rfl, rfl, rfl⟩ := trodAll_nil r0
    obtain rfl : args = #[v0] := by cases args; simp_all
    obtain ⟨A0, c0, L0, rfl, hE0⟩ := Ve.open_edits (hval 0 _ v0 rfl rfl) h0 (fun x hx => hlt x (by simp [hx]))
    exact walk A0 c0 L0 W hE0

theorem over : Rows.versionRowsRow.holds Try.pinned (OpenSpec.ofChange Rows.versionRowsSpec) :=
  OpenClaim.holds_of_wide 8 Try.f8 rfl rfl rfl rfl rfl rfl rfl ⟨rfl, rfl, rfl, rfl, rfl⟩ rfl rfl rfl rfl rfl (by kernel_rfl) Try.func8 (by kernel_rfl)
    (of_decide_eq_true (by kernel_rfl)) (by unfold Func.isWrapper; first | (rw [if_pos (by decide +kernel)]; kernel_rfl) | (rw [if_neg (by decide +kernel)]; exact ⟨rfl, rfl⟩))
    (fun os started H enc _ => lifted os started H enc)

theorem proved : Rows.VersionRowsSaid :=
  over
#print axioms proved
end Go.Proofs.Ythhmjjmjicmhdaa.versionRows
