/- The reader of package batch: operations. -/
import Derived.Test.YtggliedlfccicaaBrd2
namespace Go.Proofs.Ytggliedlfccicaa.Bt
set_option linter.unusedVariables false
set_option linter.unusedSimpArgs false
open Go.RowKit Lift Ik Vn

theorem field_three (l : List Nat) (lo hi : Nat) : (fieldL l lo hi).1 = 0 ∨ ((fieldL l lo hi).1 = 2 ∧ (fieldL l lo hi).2.1 = []) ∨ ((fieldL l lo hi).1 = 4 ∧ (fieldL l lo hi).2.1 = []) := by
  have := dec_three l 0 0
  unfold fieldL
  split
  · rcases this with h | h | h
    · contradiction
    · exact .inr (.inl ⟨h, rfl⟩)
    · exact .inr (.inr ⟨h, rfl⟩)
  · split
    · exact .inr (.inl ⟨rfl, rfl⟩)
    · split
      · exact .inr (.inr ⟨rfl, rfl⟩)
      · exact .inl rfl
theorem field_mem (l : List Nat) (lo hi : Nat) : ∀ x, x ∈ (fieldL l lo hi).2.1 → x ∈ l := by
  intro x hx
  unfold fieldL at hx
  split at hx
  · simp at hx
  · split at hx
    · simp at hx
    · split at hx
      · simp at hx
      · exact List.mem_of_mem_drop (List.mem_of_mem_take hx)
abbrev zD : D := ⟨0, none, 0, [], none, 0, []⟩
theorem zD_ok (w : World) (R : Nat → Prop) : zD.Ok w R := ⟨.inl rfl, Nat.le_refl _, (show 0 ≤ maxLen by decide), by simp, .inl rfl, Nat.le_refl _, (show 0 ≤ maxLen by decide), by simp, by simp, by simp⟩
/-- What an operation is told as. -/
def Opped (w : World) (g : Nat) (ad : Addr) (c : Nat) (bs : List Nat) (p : Nat) (r : Nat × O × Nat) (e : Ending) (w' : World) : Prop :=
  ∃ (d : D) (q : Nat), e = .returned (.tuple #[d.v, .int .i64 (r.1 : Int)]) ∧ d.o = r.2.1 ∧ d.Ok w' (fun k => w.heap.size ≤ k ∧ k < w'.heap.size) ∧ Keep (· = g) w w' ∧ Rdr w' g ad c bs q ∧ (r.1 = 0 → q = p + r.2.2)
/-- The operation's cells laid into the box of the result. -/
theorem op_end {w W : World} {g c q : Nat} {ad : Addr} {bs : List Nat} {us : List Value} (d : D) (hg : g < w.heap.size) (hk : Keep (· = g) w W) (hr : Rdr W g ad c bs q) (hu : us.length = 3) (hb : Box W w.heap.size 46 us) (hd : d.Ok W (fun k => w.heap.size + 2 ≤ k ∧ k < W.heap.size)) :
    ∀ W', W' = ((W.setCell ⟨w.heap.size, 0, none⟩ (.int .i64 d.kind)).setCell ⟨w.heap.size, 1, none⟩ (.slice d.ka d.key.length d.kc)).setCell ⟨w.heap.size, 2, none⟩ (.slice d.va d.val.length d.vc) →
      Keep (· = g) w W' ∧ Rdr W' g ad c bs q ∧ Box W' w.heap.size 46 [.int .i64 d.kind, .slice d.ka d.key.length d.kc, .slice d.va d.val.length d.vc] ∧ d.Ok W' (fun k => w.heap.size ≤ k ∧ k < W'.heap.size) := by
  rintro W' rfl
  have h1 : Keep (· = w.heap.size) W (((W.setCell ⟨w.heap.size, 0, none⟩ (.int .i64 d.kind)).setCell ⟨w.heap.size, 1, none⟩ (.slice d.ka d.key.length d.kc)).setCell ⟨w.heap.size, 2, none⟩ (.slice d.va d.val.length d.vc)) :=
    (((Keep.refl (· = w.heap.size) W).setCell (p := ⟨w.heap.size, 0, none⟩) (.inr rfl) _).setCell (p := ⟨w.heap.size, 1, none⟩) (.inr rfl) _).setCell (p := ⟨w.heap.size, 2, none⟩) (.inr rfl) _
  refine ⟨hk.trans h1 fun i hi he => by omega, hr.below (h1.below (B := w.heap.size) hk.size fun k hk2 => by omega) hg, ?_, hd.later (fun k hk2 => h1.block k hk2.2 (by omega)) fun k hk2 => ⟨by omega, Nat.lt_of_lt_of_le hk2.2 h1.size⟩⟩
  match us, hu with
  | [u0, u1, u2], _ => exact ((hb.set 0 _).set 1 _).set 2 _

theorem op_bad (l : List Nat) (h : (kindL l).1 ≠ 0) : opL l = ((kindL l).1, noO, 0) := by
  cases l with
  | nil => rfl
  | cons c r =>
    simp only [kindL] at h ⊢
    split
    · rename_i h1; simp [opL, h1]
    · rename_i h1; rw [if_neg h1] at h; simp at h
theorem kind_three (l : List Nat) : (kindL l).1 = 0 ∨ kindL l = (2, 0) ∨ kindL l = (4, 0) := by
  cases l with
  | nil => exact .inr (.inr rfl)
  | cons c r => simp only [kindL]; split; exact .inr (.inl rfl); exact .inl rfl
theorem kind_good {bs : List Nat} {p : Nat} (h : (kindL (bs.drop p)).1 = 0) : ∃ k, k ≤ 1 ∧ bs.drop p = k :: bs.drop (p + 1) ∧ kindL (bs.drop p) = (0, k) := by
  cases hl : bs.drop p with
  | nil => rw [hl] at h; simp [kindL] at h
  | cons c r =>
    rw [hl] at h
    have hc : ¬ 1 < c := by intro h1; simp [kindL, h1] at h
    refine ⟨c, by omega, ?_, by simp [kindL, hc]⟩
    rw [← List.drop_drop, hl]; rfl
theorem opL_text {k fe : Nat} {r ft : List Nat} {fk : Nat} (hk : k ≤ 1) (hf : fieldL r 1 256 = (fe, ft, fk)) (he : fe ≠ 0) : opL (k :: r) = (fe, noO, 0) := by simp only [opL]; rw [if_neg (by omega), hf]; simp [he]
theorem opL_del {r ft : List Nat} {fk : Nat} (hf : fieldL r 1 256 = (0, ft, fk)) : opL (0 :: r) = (0, ⟨0, ft, []⟩, 1 + fk) := by simp only [opL]; rw [if_neg (by omega), hf]; simp
theorem opL_put {r ft gt : List Nat} {fk ge gk : Nat} (hf : fieldL r 1 256 = (0, ft, fk)) (hg : fieldL (r.drop fk) 0 4096 = (ge, gt, gk)) : opL (1 :: r) = if ge ≠ 0 then (ge, noO, 0) else (0, ⟨1, ft, gt⟩, 1 + fk + gk) := by
  simp only [opL]; rw [if_neg (by omega), hf]; simp only; rw [hg]; simp

set_option maxRecDepth 100000 in
set_option maxHeartbeats 800000 in
theorem op_rd (g : Nat) (ad : Addr) (c p : Nat) (bs : List Nat) (w : World) (h : Rdr w g ad c bs p) :
    Calls Try.prog 34 #[.pointer (some ⟨g, 0, none⟩)] w (Opped w g ad c bs p (opL (bs.drop p))) := by
  have H := Lib.hid h
  have hb2 := Joins.below_alloc2 w (.cells #[.int .i64 0, .slice none 0 0, .slice none 0 0] 46) (.cells #[.int .i64 0, .slice none 0 0, .slice none 0 0] 46)
  have b2 : Box ((w.alloc (.cells #[.int .i64 0, .slice none 0 0, .slice none 0 0] 46)).alloc (.cells #[.int .i64 0, .slice none 0 0, .slice none 0 0] 46)) w.heap.size 46 [.int .i64 0, .slice none 0 0, .slice none 0 0] := (Box.new w 46 [.int .i64 0, .slice none 0 0, .slice none 0 0]).alloc _
  have b4 : Box ((w.alloc (.cells #[.int .i64 0, .slice none 0 0, .slice none 0 0] 46)).alloc (.cells #[.int .i64 0, .slice none 0 0, .slice none 0 0] 46)) (w.heap.size + 1) 46 [.int .i64 0, .slice none 0 0, .slice none 0 0] := by
    have := Box.new (w.alloc (.cells #[.int .i64 0, .slice none 0 0, .slice none 0 0] 46)) 46 [.int .i64 0, .slice none 0 0, .slice none 0 0]
    rw [show (w.alloc (.cells #[.int .i64 0, .slice none 0 0, .slice none 0 0] 46)).heap.size = w.heap.size + 1 by simp] at this
    exact this
  have hz : ((w.alloc (.cells #[.int .i64 0, .slice none 0 0, .slice none 0 0] 46)).alloc (.cells #[.int .i64 0, .slice none 0 0, .slice none 0 0] 46)).heap.size = w.heap.size + 2 := by simp
  have hglt := h.rd.lt
  have hr0 := h.below hb2 hglt
  have hkind := kind_any g ad c p bs _ hr0
  have hk0 : Keep (· = g) w ((w.alloc (.cells #[.int .i64 0, .slice none 0 0, .slice none 0 0] 46)).alloc (.cells #[.int .i64 0, .slice none 0 0, .slice none 0 0] 46)) := below_keep hb2
  clear h hb2 hr0
  go_enter Try.func34, Try.ntmps34
  go_wp2_with fail
  generalize (w.alloc (.cells #[.int .i64 0, .slice none 0 0, .slice none 0 0] 46)).alloc (.cells #[.int .i64 0, .slice none 0 0, .slice none 0 0] 46) = w0 at b2 b4 hz hkind hk0 ⊢
  refine hkind.mono ?_
  rintro e W1 ⟨q1, rfl, hk1, hr1, hq1⟩
  have b21 := b2.keep hk1 (by omega)
  have b41 := b4.keep hk1 (by omega)
  have hz1 : w.heap.size + 2 ≤ W1.heap.size := by have := hk1.size; omega
  have hk1 := hk0.trans hk1 fun _ _ h => h
  obtain ⟨p0, p1, p2, p3, p4, p5⟩ := b21.facts3
  obtain ⟨s0, s1, s2, s3, s4, s5⟩ := b41.facts3
  have K1 := Lib.hid hk1
  have R1 := Lib.hid hr1
  have Q1 := Lib.hid hq1
  have B2 := Lib.hid b21
  have B4 := Lib.hid b41
  have HZ := Lib.hid hz1
  have HLT := Lib.hid hglt
  clear b2 b4 hz hkind hk0 hk1 hr1 hq1 b21 b41 hz1 hglt
  have R2 := Lib.hid fun (u : Value) => R1.out.below (w' := W1.setCell ⟨w.heap.size + 1, 0, none⟩ u) (B := w.heap.size) ((Below.refl _ _).setCell (Nat.le_succ _) u) HLT.out
  have K2 := Lib.hid fun (u : Value) => K1.out.setCell (p := ⟨w.heap.size + 1, 0, none⟩) (.inl (Nat.le_succ _)) u
  have B2S := Lib.hid fun (u : Value) => B2.out.setOther (p := ⟨w.heap.size + 1, 0, none⟩) (by simp) u
  rcases kind_three (bs.drop p) with hk | hk | hk
  · obtain ⟨k, hk1, hdr, hkk⟩ := kind_good hk
    have Q2 := Lib.hid (Q1.out hk)
    rw [hkk]
    clear hk hkk
    obtain ⟨fe, ft, fk, hf⟩ : ∃ fe ft fk, fieldL (bs.drop (p + 1)) 1 256 = (fe, ft, fk) := ⟨_, _, _, rfl⟩
    have h3 := field_three (bs.drop (p + 1)) 1 256
    rw [hf] at h3
    simp only at h3
    obtain rfl := Q2.out
    have HT := Lib.hid fun (u : Value) => text_rd g ad c (p + 1) 1 256 bs _ (R2.out u) (by decide) (by decide)
    rw [hf] at HT
    have hmem := field_mem (bs.drop (p + 1)) 1 256
    rw [hf] at hmem
    have T8 := Lib.hid (show ∀ x, x ∈ ft → x < 256 from fun x hx => R1.out.byte x (List.mem_of_mem_drop (hmem x hx)))
    clear hmem
    have DR := Lib.hid hdr
    have FF := Lib.hid hf
    clear hdr hf Q1 Q2
    go_wp2_with fail
  
    refine (show Calls Try.prog 40 #[.pointer (some ⟨g, 0, none⟩), .int .u64 1, .int .u64 256] (W1.setCell ⟨w.heap.size + 1, 0, none⟩ (.int .i64 (k : Int))) _ from HT.out _).mono ?_
    rintro e W3 ⟨A1, c1, q3, rfl, hl3, hc3, hm3, hk3, hr3, hq3⟩
    have b23 := (B2.out.setOther (p := ⟨w.heap.size + 1, 0, none⟩) (by simp) (.int .i64 (k : Int))).keep hk3 (by have := HLT.out; omega)
    have b43 := (B4.out.set 0 (.int .i64 (k : Int))).keep hk3 (by have := HLT.out; omega)
    have hsz3 : W1.heap.size ≤ W3.heap.size := by have := hk3.size; simpa [World.setCell] using this
    have K3 := Lib.hid ((K2.out (.int .i64 (k : Int))).trans hk3 fun _ _ h => h)
    have R3 := Lib.hid hr3
    have B23 := Lib.hid b23
    have B43 := Lib.hid b43
    have Q3 := Lib.hid hq3
    have HZ3 := Lib.hid (Nat.le_trans HZ.out hsz3)
    have L3 := Lib.hid (hl3.later (R' := fun k => w.heap.size + 2 ≤ k ∧ k < W3.heap.size) (fun _ _ => rfl) fun k hk => ⟨Nat.le_trans HZ.out (by have := hk.1; simpa [World.setCell] using this), hk.2⟩)
    have C3 := Lib.hid hc3
    have M3 := Lib.hid hm3
    clear p0 p1 p2 p3 p4 p5 s0 s1 s2 s3 s4 s5 hl3 hc3 hm3 hk3 hr3 hq3 hsz3 HT
    obtain ⟨p0, p1, p2, p3, p4, p5⟩ := b23.facts3
    obtain ⟨s0, s1, s2, s3, s4, s5⟩ := Box.facts3 (u0 := .int .i64 (k : Int)) (u1 := .slice none 0 0) (u2 := .slice none 0 0) b43
    clear b23 b43
    have K4 := Lib.hid fun (u : Value) => K3.out.setCell (p := ⟨w.heap.size + 1, 1, none⟩) (.inl (Nat.le_succ _)) u
    have R4 := Lib.hid fun (u : Value) => R3.out.below (w' := W3.setCell ⟨w.heap.size + 1, 1, none⟩ u) (B := w.heap.size) ((Below.refl _ _).setCell (Nat.le_succ _) u) HLT.out
    have B4S := Lib.hid fun (u : Value) => B23.out.setOther (p := ⟨w.heap.size + 1, 1, none⟩) (by simp) u
    have L4 := Lib.hid fun (u : Value) => L3.out.later (w' := W3.setCell ⟨w.heap.size + 1, 1, none⟩ u) (R' := fun k => w.heap.size + 2 ≤ k ∧ k < (W3.setCell ⟨w.heap.size + 1, 1, none⟩ u).heap.size) (fun k hk => Below.heap_setCell _ _ _ _ (by show k ≠ w.heap.size + 1; omega)) (fun k hk => ⟨hk.1, by simpa [World.setCell] using hk.2⟩)
    rcases h3 with rfl | ⟨rfl, rfl⟩ | ⟨rfl, rfl⟩
    · obtain rfl := Q3.out rfl
      rcases (show k = 0 ∨ k = 1 by omega) with rfl | rfl
      · have E := Lib.hid (show opL (bs.drop p) = (0, ⟨0, ft, []⟩, 1 + fk) by rw [DR.out, opL_del FF.out])
        clear Q3
        go_wp2_with fail
        obtain ⟨hkx, hrx, hbx, hdx⟩ := op_end ⟨0, A1, c1, ft, none, 0, []⟩ HLT.out (K4.out (.slice A1 ft.length c1)) (R4.out _) rfl (B4S.out _) ⟨L4.out _, C3.out, M3.out, T8.out, .inl rfl, Nat.le_refl _, (show 0 ≤ maxLen by decide), by simp, by simp, by simp⟩ _ rfl
        refine bodyPost_ret (results_box rfl Try.underlying46 (by kernel_rfl) _ rfl hbx) rfl ?_
        exact ⟨⟨0, A1, c1, ft, none, 0, []⟩, _, by rw [E.out]; rfl, by rw [E.out]; rfl, hdx, hkx, hrx, fun _ => by rw [E.out]; simp only; omega⟩
      · obtain ⟨ge, gt, gk, hg⟩ : ∃ ge gt gk, fieldL (bs.drop (p + 1 + fk)) 0 4096 = (ge, gt, gk) := ⟨_, _, _, rfl⟩
        have h3 := field_three (bs.drop (p + 1 + fk)) 0 4096
        have hmem := field_mem (bs.drop (p + 1 + fk)) 0 4096
        rw [hg] at h3 hmem
        simp only at h3
        have V8 := Lib.hid (show ∀ x, x ∈ gt → x < 256 from fun x hx => R1.out.byte x (List.mem_of_mem_drop (hmem x hx)))
        have HT := Lib.hid fun (u : Value) => text_rd g ad c (p + 1 + fk) 0 4096 bs _ (R4.out u) (by decide) (by decide)
        rw [hg] at HT
        have hg2 : fieldL ((bs.drop (p + 1)).drop fk) 0 4096 = (ge, gt, gk) := by rw [List.drop_drop]; exact hg
        have E := Lib.hid (show opL (bs.drop p) = if ge ≠ 0 then (ge, noO, 0) else (0, ⟨1, ft, gt⟩, 1 + fk + gk) by rw [DR.out, opL_put FF.out hg2])
        clear hmem hg hg2 Q3
        go_wp2_with fail
        refine (show Calls Try.prog 40 #[.pointer (some ⟨g, 0, none⟩), .int .u64 0, .int .u64 4096] (W3.setCell ⟨w.heap.size + 1, 1, none⟩ (.slice A1 ft.length c1)) _ from HT.out _).mono ?_
        rintro e W5 ⟨A2, c2, q5, rfl, hl5, hc5, hm5, hk5, hr5, hq5⟩
        have b25 := (B4S.out (.slice A1 ft.length c1)).keep hk5 (by have := HLT.out; omega)
        have b45 := (Box.set (us := [.int .i64 1, .slice none 0 0, .slice none 0 0]) B43.out 1 (.slice A1 ft.length c1)).keep hk5 (by have := HLT.out; omega)
        have hsz5 : W3.heap.size ≤ W5.heap.size := by have := hk5.size; simpa [World.setCell] using this
        have K5 := Lib.hid ((K4.out (.slice A1 ft.length c1)).trans hk5 fun _ _ h => h)
        have R5 := Lib.hid hr5
        have B25 := Lib.hid b25
        have Q5 := Lib.hid hq5
        have L5 := Lib.hid ((L4.out (.slice A1 ft.length c1)).later (w' := W5) (R' := fun k => w.heap.size + 2 ≤ k ∧ k < W5.heap.size) (fun k hk => hk5.block k hk.2 (by have := HLT.out; omega)) fun k hk => ⟨hk.1, Nat.lt_of_lt_of_le hk.2 hk5.size⟩)
        have V5 := Lib.hid (hl5.later (R' := fun k => w.heap.size + 2 ≤ k ∧ k < W5.heap.size) (fun _ _ => rfl) fun k hk => ⟨Nat.le_trans HZ3.out (by have := hk.1; simpa [World.setCell] using this), hk.2⟩)
        have C5 := Lib.hid hc5
        have M5 := Lib.hid hm5
        clear p0 p1 p2 p3 p4 p5 s0 s1 s2 s3 s4 s5 hl5 hc5 hm5 hk5 hr5 hq5 hsz5 HT
        obtain ⟨p0, p1, p2, p3, p4, p5⟩ := b25.facts3
        obtain ⟨s0, s1, s2, s3, s4, s5⟩ := Box.facts3 (u0 := .int .i64 1) (u1 := .slice A1 ft.length c1) (u2 := .slice none 0 0) b45
        clear b25 b45
        have K6 := Lib.hid fun (u : Value) => K5.out.setCell (p := ⟨w.heap.size + 1, 2, none⟩) (.inl (Nat.le_succ _)) u
        have R6 := Lib.hid fun (u : Value) => R5.out.below (w' := W5.setCell ⟨w.heap.size + 1, 2, none⟩ u) (B := w.heap.size) ((Below.refl _ _).setCell (Nat.le_succ _) u) HLT.out
        have B6S := Lib.hid fun (u : Value) => B25.out.setOther (p := ⟨w.heap.size + 1, 2, none⟩) (by simp) u
        have L6 := Lib.hid fun (u : Value) => L5.out.later (w' := W5.setCell ⟨w.heap.size + 1, 2, none⟩ u) (R' := fun k => w.heap.size + 2 ≤ k ∧ k < (W5.setCell ⟨w.heap.size + 1, 2, none⟩ u).heap.size) (fun k hk => Below.heap_setCell _ _ _ _ (by show k ≠ w.heap.size + 1; omega)) (fun k hk => ⟨hk.1, by simpa [World.setCell] using hk.2⟩)
        have V6 := Lib.hid fun (u : Value) => V5.out.later (w' := W5.setCell ⟨w.heap.size + 1, 2, none⟩ u) (R' := fun k => w.heap.size + 2 ≤ k ∧ k < (W5.setCell ⟨w.heap.size + 1, 2, none⟩ u).heap.size) (fun k hk => Below.heap_setCell _ _ _ _ (by show k ≠ w.heap.size + 1; omega)) (fun k hk => ⟨hk.1, by simpa [World.setCell] using hk.2⟩)
        rcases h3 with rfl | ⟨rfl, rfl⟩ | ⟨rfl, rfl⟩
        · obtain rfl := Q5.out rfl
          have E2 := Lib.hid (show opL (bs.drop p) = (0, ⟨1, ft, gt⟩, 1 + fk + gk) by rw [E.out]; rfl)
          clear Q5
          go_wp2_with fail
          obtain ⟨hkx, hrx, hbx, hdx⟩ := op_end ⟨1, A1, c1, ft, A2, c2, gt⟩ HLT.out (K6.out (.slice A2 gt.length c2)) (R6.out _) rfl (B6S.out _) ⟨L6.out _, C3.out, M3.out, T8.out, V6.out _, C5.out, M5.out, V8.out, by simp, by simp⟩ _ rfl
          refine bodyPost_ret (results_box rfl Try.underlying46 (by kernel_rfl) _ rfl hbx) rfl ?_
          exact ⟨⟨1, A1, c1, ft, A2, c2, gt⟩, _, by rw [E2.out]; rfl, by rw [E2.out]; rfl, hdx, hkx, hrx, fun _ => by rw [E2.out]; simp only; omega⟩
        · have E2 := Lib.hid (show opL (bs.drop p) = (2, noO, 0) by rw [E.out]; rfl)
          go_wp2_with fail
          obtain ⟨hkx, hrx, hbx, hdx⟩ := op_end zD HLT.out (K6.out (.slice A2 0 c2)) (R6.out (.slice A2 0 c2)) rfl (B6S.out (.slice A2 0 c2)) (zD_ok _ _) _ rfl
          refine bodyPost_ret (results_box rfl Try.underlying46 (by kernel_rfl) _ rfl hbx) rfl ?_
          exact ⟨zD, _, by rw [E2.out]; rfl, by rw [E2.out]; rfl, hdx, hkx, hrx, fun h0 => by rw [E2.out] at h0; cases h0⟩
        · have E2 := Lib.hid (show opL (bs.drop p) = (4, noO, 0) by rw [E.out]; rfl)
          go_wp2_with fail
          obtain ⟨hkx, hrx, hbx, hdx⟩ := op_end zD HLT.out (K6.out (.slice A2 0 c2)) (R6.out (.slice A2 0 c2)) rfl (B6S.out (.slice A2 0 c2)) (zD_ok _ _) _ rfl
          refine bodyPost_ret (results_box rfl Try.underlying46 (by kernel_rfl) _ rfl hbx) rfl ?_
          exact ⟨zD, _, by rw [E2.out]; rfl, by rw [E2.out]; rfl, hdx, hkx, hrx, fun h0 => by rw [E2.out] at h0; cases h0⟩
    · have E := Lib.hid (show opL (bs.drop p) = (2, noO, 0) by rw [DR.out, opL_text (by omega) FF.out (by decide)])
      go_wp2_with fail
      obtain ⟨hkx, hrx, hbx, hdx⟩ := op_end zD HLT.out (K4.out (.slice A1 0 c1)) (R4.out (.slice A1 0 c1)) rfl (B4S.out (.slice A1 0 c1)) (zD_ok _ _) _ rfl
      refine bodyPost_ret (results_box rfl Try.underlying46 (by kernel_rfl) _ rfl hbx) rfl ?_
      exact ⟨zD, _, by rw [E.out]; rfl, by rw [E.out]; rfl, hdx, hkx, hrx, fun h0 => by rw [E.out] at h0; cases h0⟩
    · have E := Lib.hid (show opL (bs.drop p) = (4, noO, 0) by rw [DR.out, opL_text (by omega) FF.out (by decide)])
      go_wp2_with fail
      obtain ⟨hkx, hrx, hbx, hdx⟩ := op_end zD HLT.out (K4.out (.slice A1 0 c1)) (R4.out (.slice A1 0 c1)) rfl (B4S.out (.slice A1 0 c1)) (zD_ok _ _) _ rfl
      refine bodyPost_ret (results_box rfl Try.underlying46 (by kernel_rfl) _ rfl hbx) rfl ?_
      exact ⟨zD, _, by rw [E.out]; rfl, by rw [E.out]; rfl, hdx, hkx, hrx, fun h0 => by rw [E.out] at h0; cases h0⟩
  · rw [hk]
    have HK := Lib.hid hk
    clear hk
    have E := Lib.hid (show opL (bs.drop p) = (2, noO, 0) by rw [op_bad _ (by rw [HK.out]; decide), HK.out])
    go_wp2_with fail
    obtain ⟨hkx, hrx, hbx, hdx⟩ := op_end zD HLT.out (K2.out (.int .i64 0)) (R2.out (.int .i64 0)) rfl (B2S.out (.int .i64 0)) (zD_ok _ _) _ rfl
    refine bodyPost_ret (results_box rfl Try.underlying46 (by kernel_rfl) _ rfl hbx) rfl ?_
    exact ⟨zD, _, by rw [E.out]; rfl, by rw [E.out]; rfl, hdx, hkx, hrx, fun h0 => by rw [E.out] at h0; cases h0⟩
  · rw [hk]
    have HK := Lib.hid hk
    clear hk
    have E := Lib.hid (show opL (bs.drop p) = (4, noO, 0) by rw [op_bad _ (by rw [HK.out]; decide), HK.out])
    go_wp2_with fail
    obtain ⟨hkx, hrx, hbx, hdx⟩ := op_end zD HLT.out (K2.out (.int .i64 0)) (R2.out (.int .i64 0)) rfl (B2S.out (.int .i64 0)) (zD_ok _ _) _ rfl
    refine bodyPost_ret (results_box rfl Try.underlying46 (by kernel_rfl) _ rfl hbx) rfl ?_
    exact ⟨zD, _, by rw [E.out]; rfl, by rw [E.out]; rfl, hdx, hkx, hrx, fun h0 => by rw [E.out] at h0; cases h0⟩
end Go.Proofs.Ytggliedlfccicaa.Bt
