/- What Append of package disk answers. -/
import Derived.Test.YtnbknihaefkllaaDcreate
namespace Go.Proofs.Ytnbknihaefkllaa.Dk
set_option linter.unusedVariables false
set_option linter.unusedSimpArgs false
open Go.RowKit Go.Maps Lift Ik

def lenOf (o : Option FM) : Nat := match o with | some f => f.bs.length | none => 0
def appendM (m : MS) (nm : ByteArray) (b : List Nat) : Nat × MS :=
  if bad m [nm] ≠ 0 then (bad m [nm], (hit m).2)
  else if 16777216 < lenOf (get m.fs nm) + b.length ∨ (get m.fs nm).isNone = true ∧ 1000 ≤ m.fs.length then (3, (hit m).2)
  else if m.room < used m.fs + b.length then (7, (hit m).2)
  else (0, { (hit m).2 with fs := match get m.fs nm with | some f => put1 m.fs ⟨f.nm, f.bs ++ b, f.syn⟩ | none => insM ⟨nm, b, 0⟩ m.fs })
section
variable {w w' : World} {g : Nat} {S S' T : Nat → Prop} {m : MS} {fs : List Fi} {M : Option Nat} {A : Option Addr} {c : Nat}
theorem begin1 (nm : ByteArray) (h : Lay w g S m fs M A c) (hf : m.failed ≤ 1000000) :
    Calls Try.prog (14) #[.pointer (some ⟨g, 0, none⟩), .slice (some ⟨w.heap.size, 0, none⟩) 1 1] (w.alloc (.cells #[.string nm] 9)) fun e w' => ∃ A' c', e = .returned (.int .i64 (bad m [nm] : Nat)) ∧ Keep (· = g) w w' ∧ Lay w' g S (hit m).2 fs M A' c' := by
  have hk0 : Keep (fun _ => False) w (w.alloc (.cells #[.string nm] 9)) := below_keep (Joins.below_alloc1 w _)
  refine (begin_any g S m fs M A (some ⟨w.heap.size, 0, none⟩) c 1 [nm] _ (h.keep hk0 fun _ _ => id) hf (names1 nm (h.lt g h.sg)) (by simp) (by decide)).mono ?_
  rintro e w' ⟨A', c', he, hk, hL⟩
  exact ⟨A', c', he, (below_keep (S := (· = g)) (Joins.below_alloc1 w _)).trans hk fun _ _ h => h, hL⟩
theorem len_run (h : Files w S M fs) (ty : TypeId) : Sem.run Try.prog (Builtin.len_ #[42] ty #[.map M]) w = .ok (.int .i64 (fs.length : Int)) w := by
  rcases h.map with ⟨rfl, rfl⟩ | ⟨b, rfl, hs, hm⟩
  · exact Maps.len_nil Try.underlying42 ty
  · have := hm.len Try.underlying42 ty
    rw [this]
    simp [Maps.size]
/-- Bytes are laid behind a file's: what becomes of the disk. -/
theorem Lay.wrote {W5 : World} {f : Fi} {v' : Value} {b : List Nat} (h : Lay w g S m fs M A c) (hf : f ∈ fs) (hown : W5.ownsRow 0 5 1 v' (f.bs.length + b.length) ((f.bs ++ b).map vb)) (hon : Onto f.v v' w W5)
    (hlen : f.bs.length + b.length ≤ 16777216) (hb : ∀ x, x ∈ b → x < 256) (hr : used m.fs + b.length ≤ m.room) :
    ∃ S', At ((W5.setCell ⟨f.blk, 0, none⟩ v').setCell ⟨g, 1, none⟩ (.int .i64 ((used m.fs : Int) + (b.length : Int)))) g S' { m with fs := put1 m.fs ⟨f.nm, f.bs ++ b, f.syn⟩ } ∧
      Keep S w ((W5.setCell ⟨f.blk, 0, none⟩ v').setCell ⟨g, 1, none⟩ (.int .i64 ((used m.fs : Int) + (b.length : Int)))) ∧ (∀ k, S k → S' k) ∧ ∀ k, S' k → S k ∨ w.heap.size ≤ k := by
  have ok := h.files.ok f hf
  have hgb : g ≠ f.blk := fun e => by
    have h1 := ok.box
    rw [← e] at h1
    exact typed h.box h1 (by decide)
  have n1 : ¬ f.v.ownBlock = some f.blk := fun e => by
    obtain ⟨_, cs, fr, h1⟩ := ok.bytes e
    exact typed ok.box h1 (by decide)
  have n2 : ¬ f.v.ownBlock = some g := fun e => by
    obtain ⟨_, cs, fr, h1⟩ := ok.bytes e
    exact typed h.box h1 (by decide)
  have bf5 : Box W5 f.blk Ty.file [f.v, .int .i64 (f.syn : Int)] := ok.box.keep hon.keep n1
  have bg5 := h.box.keep hon.keep n2
  have hk : Keep (Of g f) w ((W5.setCell ⟨f.blk, 0, none⟩ v').setCell ⟨g, 1, none⟩ (.int .i64 ((used m.fs : Int) + (b.length : Int)))) :=
    ((hon.keep.mono (T := Of g f) fun k hk => .inr (.inr hk)).setCell (p := ⟨f.blk, 0, none⟩) (.inr (.inr (.inl rfl))) _).setCell (p := ⟨g, 1, none⟩) (.inr (.inl rfl)) _
  have hk5 : Keep (fun k => k = f.blk ∨ k = g) W5 ((W5.setCell ⟨f.blk, 0, none⟩ v').setCell ⟨g, 1, none⟩ (.int .i64 ((used m.fs : Int) + (b.length : Int)))) :=
    ((Keep.refl _ W5).setCell (p := ⟨f.blk, 0, none⟩) (.inr (.inl rfl)) _).setCell (p := ⟨g, 1, none⟩) (.inr (.inr rfl)) _
  have hsz : ((W5.setCell ⟨f.blk, 0, none⟩ v').setCell ⟨g, 1, none⟩ (.int .i64 ((used m.fs : Int) + (b.length : Int)))).heap.size = W5.heap.size := by simp [World.setCell]
  have hu : used (put1 m.fs ⟨f.nm, f.bs ++ b, f.syn⟩) = used m.fs + b.length := by
    have := used_put1 m.fs f.m ⟨f.nm, f.bs ++ b, f.syn⟩ (by rw [h.told]; exact names_apart h.files.sep) (by rw [h.told]; exact List.mem_map.2 ⟨f, hf, rfl⟩) rfl
    have e : f.m.bs = f.bs := rfl
    rw [e] at this
    simp only [List.length_append] at this
    omega
  have hlt5 : ∀ k, v'.ownBlock = some k → k < W5.heap.size := fun k hk => (hown.lt k hk).2
  refine ⟨Gr S w W5, ?_, hk.mono fun k hk => ?_, fun k hk => .inl hk, fun k hk => hk.imp id fun h => h.1⟩
  · refine (h.sub (f' := ⟨f.nm, f.blk, v', f.bs ++ b, f.syn⟩) (S' := Gr S w W5) hk hf rfl rfl ⟨?_, ?_, .inl ok.sb, fun k hk => ?_, ?_, ?_, ?_, ok.nm⟩ (fun k hk => hon.place k hk) (fun k hk => .inl hk) (fun k hk => ?_) ?_ ?_).toAt
    · exact (bf5.set 0 v').setOther (p := ⟨g, 1, none⟩) (fun e => hgb e.symm) _
    · have := own_keep hown hk5 fun k hk e => by
        rcases e with e | e
        · rw [e] at hk; exact own_apart hown bf5 (by decide) hk
        · rw [e] at hk; exact own_apart hown bg5 (by decide) hk
      rw [List.length_append]
      exact this
    · rcases hon.place k hk with h1 | h1
      · exact .inl (ok.sv k h1)
      · exact .inr ⟨h1, hlt5 k hk⟩
    · have := ok.syn
      simp only [List.length_append]
      omega
    · simp only [List.length_append]
      omega
    · intro x hx
      rcases List.mem_append.1 hx with h1 | h1
      · exact ok.byte x h1
      · exact hb x h1
    · rw [hsz]
      rcases hk with h1 | h1
      · exact Nat.lt_of_lt_of_le (h.lt k h1) hon.keep.size
      · exact h1.2
    · show Box _ _ _ [_, .int .i64 (used (put1 m.fs ⟨f.nm, f.bs ++ b, f.syn⟩) : Int), _, _, _]
      rw [hu, Int.natCast_add]
      exact (bg5.setOther (p := ⟨f.blk, 0, none⟩) hgb v').set 1 _
    · show used (put1 m.fs ⟨f.nm, f.bs ++ b, f.syn⟩) ≤ _
      rw [hu]
      exact hr
  · rcases hk with h1 | h1 | h1
    · rw [h1]; exact h.sg
    · rw [h1]; exact ok.sb
    · exact ok.sv k h1

set_option maxRecDepth 100000 in
set_option maxHeartbeats 1600000 in
theorem append_any (nm : ByteArray) (Ab : Option Addr) (cb : Nat) (bs : List Nat) (h : At w g S m) (hf : m.failed ≤ 1000000) (hb : LiesP w (fun k => ¬ S k ∧ k < w.heap.size) Ab (bs.map vb)) (hc : bs.length ≤ cb) (hbl : bs.length ≤ 1099511627776) (hb8 : ∀ x, x ∈ bs → x < 256) :
    Calls Try.prog (8) #[.pointer (some ⟨g, 0, none⟩), .string nm, .slice Ab bs.length cb] w (Told w g S (appendM m nm bs)) := by
  obtain ⟨fs, M, A, c, h⟩ := h
  have HF := Lib.hid (begin1 nm h hf)
  have HT := Lib.hid h.told
  have HS := Lib.hid h.sg
  have HB := Lib.hid hb
  have HB8 := Lib.hid hb8
  have HFS := Lib.hid (hit_fs m)
  clear h hb hb8
  go_enter Try.func8, Try.ntmps8
  go_wp2_with fail
  refine HF.out.mono ?_
  rintro e W1 ⟨A1, c1, rfl, hk1, hL1⟩
  obtain ⟨p0, p1, p2, _⟩ := hL1.facts
  have HK := Lib.hid hk1
  have HL := Lib.hid hL1
  have hroom := hL1.room
  have hused := hL1.used_le
  by_cases hb0 : bad m [nm] = 0
  · have hlk := look_run hL1.files nm ((bad_zero hb0).2 nm (by simp))
    have hnm := (bad_zero hb0).2 nm (by simp)
    have hlen := len_run hL1.files
    have HB1 : Hid (LiesP W1 (fun k => ¬ S k ∧ k < W1.heap.size) Ab (bs.map vb)) := Lib.hid (HB.out.later (fun k hk => hk1.block k hk.2 fun e => hk.1 (by rw [e]; exact HS.out)) fun k hk => ⟨hk.1, Nat.lt_of_lt_of_le hk.2 hk1.size⟩)
    have hmany : fs.length = m.fs.length := by rw [HT.out, List.length_map]
    rw [hb0]
    have HB0 := Lib.hid hb0
    have hfs2 : (hit m).2.fs = m.fs := (hit_fs m).1
    have hrm2 : (hit m).2.room = m.room := (hit_fs m).2
    rw [hfs2] at p1 hused
    rw [hrm2] at p0 hroom
    obtain ⟨U, hU⟩ : ∃ U, U = used m.fs := ⟨_, rfl⟩
    obtain ⟨R, hR⟩ : ∃ R, R = m.room := ⟨_, rfl⟩
    rw [← hU] at p1 hused
    rw [← hR] at p0 hroom
    have HU := Lib.hid hU
    have HRR := Lib.hid hR
    have HM' := Lib.hid hmany
    have HFS2 := Lib.hid hfs2
    have HRM2 := Lib.hid hrm2
    clear hk1 hL1 HF hb0 hfs2 hrm2 hU hR hmany
    rcases hfo : look fs nm with _ | f
    · rw [hfo] at hlk
      have hg : Hid (get m.fs nm = none) := Lib.hid (by rw [HT.out, look_get, hfo]; rfl)
      have HNO := Lib.hid (look_none.1 hfo)
      clear hfo
      have hlk' : Sem.run Try.prog (Instr.lookup 42 (.map M) (.string nm) false) W1 = .ok (.pointer none) W1 := hlk
      clear hlk
      by_cases k1 : 16777216 < bs.length
      · have d1 : decide ((16777216 : Int) < (bs.length : Int)) = true := by simp; omega
        have E : Hid (appendM m nm bs = (3, (hit m).2)) := Lib.hid (by
          unfold appendM
          rw [if_neg (by have := HB0.out; omega), hg.out, if_pos (.inl (by show 16777216 < 0 + bs.length; omega))])
        clear k1
        go_wp2_with fail
        go_ret
        exact ⟨S, by rw [E.out]; rfl, by rw [E.out]; exact HL.out.toAt, HK.out.mono fun k hk => by rw [hk]; exact HS.out, fun k hk => .inl hk⟩
      · have d1 : decide ((16777216 : Int) < (bs.length : Int)) = false := by simp; omega
        by_cases k2 : 1000 ≤ fs.length
        · have d2 : decide ((1000 : Int) ≤ (fs.length : Int)) = true := by simp; omega
          have E : Hid (appendM m nm bs = (3, (hit m).2)) := Lib.hid (by
            unfold appendM
            rw [if_neg (by have := HB0.out; omega), hg.out, if_pos (.inr ⟨rfl, by have := HM'.out; omega⟩)])
          clear k1 k2
          go_wp2_with fail
          go_ret
          exact ⟨S, by rw [E.out]; rfl, by rw [E.out]; exact HL.out.toAt, HK.out.mono fun k hk => by rw [hk]; exact HS.out, fun k hk => .inl hk⟩
        · have d2 : decide ((1000 : Int) ≤ (fs.length : Int)) = false := by simp; omega
          by_cases k3 : R < U + bs.length
          · have d3 : decide ((R : Int) < (U : Int) + (bs.length : Int)) = true := by simp; omega
            have E : Hid (appendM m nm bs = (7, (hit m).2)) := Lib.hid (by
              unfold appendM
              rw [if_neg (by have := HB0.out; omega), hg.out, if_neg (by have := HM'.out; show ¬ (16777216 < 0 + bs.length ∨ _ ∧ 1000 ≤ m.fs.length); omega), if_pos (by have := HU.out; have := HRR.out; omega)])
            clear k1 k2 k3
            go_wp2_with fail
            go_quiet (fail)
            go_wp2_with fail
            go_ret
            exact ⟨S, by rw [E.out]; rfl, by rw [E.out]; exact (HL.out.drew _).toAt, (HK.out.mono fun k hk => by rw [hk]; exact HS.out).trans (T := fun _ => False) (below_keep (Joins.below_draws _ _ _)) (fun _ _ h => h.elim), fun k hk => .inl hk⟩
          · have d3 : decide ((R : Int) < (U : Int) + (bs.length : Int)) = false := by simp; omega
            have E : Hid (appendM m nm bs = (0, { (hit m).2 with fs := insM ⟨nm, bs, 0⟩ m.fs })) := Lib.hid (by
              unfold appendM
              rw [if_neg (by have := HB0.out; omega), hg.out, if_neg (by have := HM'.out; show ¬ (16777216 < 0 + bs.length ∨ _ ∧ 1000 ≤ m.fs.length); omega), if_neg (by have := HU.out; have := HRR.out; omega)])
            have hl0 : 0 + bs.length ≤ 16777216 := by omega
            have HL0 := Lib.hid hl0
            have HC := Lib.hid fun n => create_any (w := W1.drewN n) nm (HL.out.drew n) HNO.out hnm (by omega)
            have HFIT : Hid (U + bs.length ≤ R) := Lib.hid (by omega)
            clear k1 k2 k3 hl0
            go_wp2_with fail
            go_quiet (fail)
            go_wp2_with fail
            refine (HC.out _).mono ?_
            rintro e W4 ⟨blk, b, S4, rfl, hblk, hL4, hk4, hS4, hS4'⟩
            have HL4 := Lib.hid hL4
            have HK4 := Lib.hid ((HK.out.mono (T := S) fun k hk => by rw [hk]; exact HS.out).trans (T := S) ((below_keep (S := S) (Joins.below_draws W1.heap.size W1 _)).trans (T := Hd g M) hk4 fun k _ hk => by
              rcases hk with e | e
              · rw [e]; exact HS.out
              · rcases HL.out.files.map with ⟨h0, _⟩ | ⟨b', hM, hs, _⟩
                · rw [h0] at e; cases e
                · rw [hM] at e; cases e; exact hs) fun _ _ h => h)
            have hbk : ∀ k, ¬ S k ∧ k < W1.heap.size → W4.heap[k]? = W1.heap[k]? := fun k hk => by
              refine (hk4.block k (by simpa using hk.2) fun e => ?_).trans rfl
              rcases e with e | e
              · exact hk.1 (by rw [e]; exact HS.out)
              · rcases HL.out.files.map with ⟨h0, _⟩ | ⟨b', hM, hs, _⟩
                · rw [h0] at e; cases e
                · rw [hM] at e; cases e; exact hk.1 hs
            have HBK : Hid (LiesP W4 (fun k => k < W4.heap.size) Ab (bs.map vb)) := Lib.hid (HB1.out.later hbk fun k hk => by
              have := hk4.size
              have h2 := hk.2
              simp at this
              omega)
            have HSS := Lib.hid hS4
            have HSS' := Lib.hid hS4'
            have HU4 : Hid (used { (hit m).2 with fs := insM ⟨nm, [], 0⟩ (hit m).2.fs : MS }.fs = U) := Lib.hid (by
              show used (insM ⟨nm, [], 0⟩ (hit m).2.fs) = U
              rw [used_insM, HFS2.out, HU.out]
              rfl)
            clear hL4 hk4 hS4 hS4' hbk HC hblk
            obtain ⟨f, hfe⟩ : ∃ f : Fi, f = ⟨nm, blk, .slice none 0 0, [], 0⟩ := ⟨_, rfl⟩
            have HFE := Lib.hid hfe
            have HLEN : Hid (f.bs.length + bs.length ≤ 16777216) := Lib.hid (by rw [hfe]; exact HL0.out)
            rw [← hfe] at HL4
            have HM : Hid (f ∈ insF f fs) := Lib.hid ((insF_mem _ _ _).2 (.inl rfl))
            obtain rfl : blk = f.blk := by rw [hfe]
            clear hfe
            obtain ⟨s0, s1, s2, _, _, y01, _⟩ := HL4.out.facts
            rw [HU4.out] at s1
            clear s2
            obtain ⟨f0, f1, z0, z1⟩ := (HL4.out.files.ok f HM.out).box.facts2
            have hok := HL4.out.files.ok f HM.out
            obtain ⟨Av, cv, hv, hcv, hcvm, _⟩ := own_parts hok.own
            have hown := hok.own
            rw [hv] at f0 hown
            obtain ⟨v5, W5, hr5, hown5, hon5⟩ := run_append_onto (P := Try.prog) (w := W4) (m := bs.length) (c := cb) (cs := bs.map vb) 31 31 5 (.int .u8 0) 1 1 Try.underlying31 (by kernel_rfl) rfl (by decide)
              (fun u hu => by simp at hu; obtain ⟨_, _, rfl⟩ := hu; rfl) hown (HBK.out.lies (B := W4.heap.size) fun k hk => hk) (by simp) (by have := HLEN.out; unfold maxLen; omega) (by have := HLEN.out; omega) (Nat.zero_le _)
            obtain ⟨A5, c5, rfl, _, _, _⟩ := own_parts hown5
            rw [← hv] at hon5
            rw [← List.map_append] at hown5
            have hgb : g ≠ f.blk := fun e => by
              have h1 := hok.box
              rw [← e] at h1
              exact typed HL4.out.box h1 (by decide)
            have n1 : ¬ f.v.ownBlock = some f.blk := fun e => by
              obtain ⟨_, cs, fr, h1⟩ := hok.bytes e
              exact typed hok.box h1 (by decide)
            have n2 : ¬ f.v.ownBlock = some g := fun e => by
              obtain ⟨_, cs, fr, h1⟩ := hok.bytes e
              exact typed HL4.out.box h1 (by decide)
            obtain ⟨y0, y1, x0, x1⟩ := Box.facts2 (hok.box.keep hon5.keep n1)
            have bg5 := (HL4.out.box.keep hon5.keep n2).setOther (p := ⟨f.blk, 0, none⟩) hgb (.slice A5 (f.bs.length + bs.length) c5)
            have r1 := bg5.cell 1
            have r2 := bg5.free 1
            simp only [List.getElem?_cons_succ, List.getElem?_cons_zero] at r1
            have HW := Lib.hid (HL4.out.wrote HM.out hown5 hon5 HLEN.out HB8.out (by rw [HU4.out]; show U + bs.length ≤ (hit m).2.room; rw [HRM2.out, ← HRR.out]; exact HFIT.out))
            have HR5 := Lib.hid hr5
            obtain ⟨n5, hn5⟩ : ∃ n, n = f.bs.length := ⟨_, rfl⟩
            obtain ⟨b5, hb5⟩ : ∃ b, b = f.blk := ⟨_, rfl⟩
            rw [← hn5] at f0 hcv HW HR5 r1 r2
            rw [← hb5] at f0 f1 z0 z1 y0 y1 x0 x1 r1 r2 hgb HW ⊢
            have HB5 := Lib.hid hb5
            clear hown hown5 hon5 hr5 hok hv n1 n2 bg5 hn5 hb5
            rw [HU4.out] at HW r1
            go_wp2_with (at_builtin; refine wpList_append_run rfl _ _ 31 rfl rfl rfl HR5.out ?_)
            go_ret
            obtain ⟨S', hA, hK5, hS1, hS2⟩ := HW.out
            have hs1 : w.heap.size ≤ W1.heap.size := HK.out.size
            have hsd : ∀ k, S4 k → S k ∨ w.heap.size ≤ k := fun k hk => (HSS'.out k hk).imp id fun h => by simp at h; omega
            refine ⟨S', by rw [E.out]; rfl, ?_, HK4.out.trans hK5 fun i hi h4 => (hsd i h4).elim id fun h => absurd hi (Nat.not_lt_of_le h), fun k hk => (hS2 k hk).elim (hsd k) fun h => .inr (Nat.le_trans HK4.out.size h)⟩
            rw [E.out]
            have hfe := HFE.out
            have e : put1 (insM ⟨nm, [], 0⟩ (hit m).2.fs) ⟨f.nm, f.bs ++ bs, f.syn⟩ = insM ⟨nm, bs, 0⟩ m.fs := by
              rw [HFS2.out, hfe]
              exact put_ins (f := ⟨nm, [], 0⟩) (f' := ⟨nm, bs, 0⟩) rfl (get_none.1 hg.out)
            have hA' := hA
            rw [e] at hA'
            exact hA'
    · obtain ⟨hm, hnmf⟩ := look_mem hfo
      rw [hfo] at hlk
      have hg : Hid (get m.fs nm = some f.m) := Lib.hid (by rw [HT.out, look_get, hfo]; rfl)
      clear hfo
      have hlk' : Sem.run Try.prog (Instr.lookup 42 (.map M) (.string nm) false) W1 = .ok (.pointer (some ⟨f.blk, 0, none⟩)) W1 := hlk
      have HM := Lib.hid hm
      have HNM := Lib.hid hnmf
      obtain ⟨f0, _, _, _⟩ := (HL.out.files.ok f hm).box.facts2
      obtain ⟨Av, cv, hv, hcv, hcvm, _⟩ := own_parts (HL.out.files.ok f hm).own
      have hfl := (HL.out.files.ok f hm).len
      rw [hv] at f0
      obtain ⟨L, hL⟩ : ∃ L, L = f.bs.length := ⟨_, rfl⟩
      obtain ⟨b0, hb0⟩ : ∃ b, b = f.blk := ⟨_, rfl⟩
      rw [← hL] at f0 hcv hfl
      rw [← hb0] at f0 hlk'
      have HLL := Lib.hid hL
      have HB00 := Lib.hid hb0
      clear hlk hm hnmf hv hL hb0
      by_cases k1 : 16777216 < L + bs.length
      · have d1 : decide ((16777216 : Int) < (L : Int) + (bs.length : Int)) = true := by simp; omega
        have E : Hid (appendM m nm bs = (3, (hit m).2)) := Lib.hid (by
          unfold appendM
          rw [if_neg (by have := HB0.out; omega), hg.out, if_pos (.inl (by show 16777216 < f.bs.length + bs.length; rw [← HLL.out]; omega))])
        clear k1
        go_wp2_with fail
        go_ret
        exact ⟨S, by rw [E.out]; rfl, by rw [E.out]; exact HL.out.toAt, HK.out.mono fun k hk => by rw [hk]; exact HS.out, fun k hk => .inl hk⟩
      · have d1 : decide ((16777216 : Int) < (L : Int) + (bs.length : Int)) = false := by simp; omega
        by_cases k3 : R < U + bs.length
        · have d3 : decide ((R : Int) < (U : Int) + (bs.length : Int)) = true := by simp; omega
          have E : Hid (appendM m nm bs = (7, (hit m).2)) := Lib.hid (by
            unfold appendM
            rw [if_neg (by have := HB0.out; omega), hg.out, if_neg (by show ¬ (16777216 < f.bs.length + bs.length ∨ false = true ∧ 1000 ≤ m.fs.length); rw [← HLL.out]; simp; omega), if_pos (by have := HU.out; have := HRR.out; omega)])
          clear k1 k3
          go_wp2_with fail
          go_quiet (fail)
          go_wp2_with fail
          go_ret
          exact ⟨S, by rw [E.out]; rfl, by rw [E.out]; exact (HL.out.drew _).toAt, (HK.out.mono fun k hk => by rw [hk]; exact HS.out).trans (T := fun _ => False) (below_keep (Joins.below_draws _ _ _)) (fun _ _ h => h.elim), fun k hk => .inl hk⟩
        · have d3 : decide ((R : Int) < (U : Int) + (bs.length : Int)) = false := by simp; omega
          have E : Hid (appendM m nm bs = (0, { (hit m).2 with fs := put1 m.fs ⟨f.nm, f.bs ++ bs, f.syn⟩ })) := Lib.hid (by
            unfold appendM
            rw [if_neg (by have := HB0.out; omega), hg.out, if_neg (by show ¬ (16777216 < f.bs.length + bs.length ∨ false = true ∧ 1000 ≤ m.fs.length); rw [← HLL.out]; simp; omega), if_neg (by have := HU.out; have := HRR.out; omega)]
            rfl)
          have HLEN : Hid (f.bs.length + bs.length ≤ 16777216) := Lib.hid (by rw [← HLL.out]; omega)
          have HFIT : Hid (U + bs.length ≤ R) := Lib.hid (by omega)
          clear k1 k3
          go_wp2_with fail
          go_quiet (fail)
          rename_i nq
          have HL4 := Lib.hid (HL.out.drew nq)
          have HK4 : Hid (Keep S w (W1.drewN nq)) := Lib.hid ((HK.out.mono (T := S) fun k hk => by rw [hk]; exact HS.out).trans (T := S) (below_keep (S := S) (Joins.below_draws W1.heap.size W1 nq)) fun _ _ h => h)
          have HBK : Hid (LiesP (W1.drewN nq) (fun k => k < (W1.drewN nq).heap.size) Ab (bs.map vb)) := Lib.hid (HB1.out.later (fun k hk => by simp) fun k hk => by simpa using hk.2)
          rw [HB00.out]
          clear p0 p1 p2 f0 hlk' hlen hcv hcvm hfl
          generalize W1.drewN nq = W4 at HL4 HK4 HBK ⊢
          have HU4 : Hid (used (hit m).2.fs = U) := Lib.hid (by rw [HFS2.out, HU.out])
          obtain ⟨s0, s1, s2, _, _, y01, _⟩ := HL4.out.facts
          rw [HU4.out] at s1
          clear s2
          obtain ⟨f0, f1, z0, z1⟩ := (HL4.out.files.ok f HM.out).box.facts2
          have hok := HL4.out.files.ok f HM.out
          obtain ⟨Av, cv, hv, hcv, hcvm, _⟩ := own_parts hok.own
          have hown := hok.own
          rw [hv] at f0 hown
          obtain ⟨v5, W5, hr5, hown5, hon5⟩ := run_append_onto (P := Try.prog) (w := W4) (m := bs.length) (c := cb) (cs := bs.map vb) 31 31 5 (.int .u8 0) 1 1 Try.underlying31 (by kernel_rfl) rfl (by decide)
            (fun u hu => by simp at hu; obtain ⟨_, _, rfl⟩ := hu; rfl) hown (HBK.out.lies (B := W4.heap.size) fun k hk => hk) (by simp) (by have := HLEN.out; unfold maxLen; omega) (by have := HLEN.out; omega) (Nat.zero_le _)
          obtain ⟨A5, c5, rfl, _, _, _⟩ := own_parts hown5
          rw [← hv] at hon5
          rw [← List.map_append] at hown5
          have hgb : g ≠ f.blk := fun e => by
            have h1 := hok.box
            rw [← e] at h1
            exact typed HL4.out.box h1 (by decide)
          have n1 : ¬ f.v.ownBlock = some f.blk := fun e => by
            obtain ⟨_, cs, fr, h1⟩ := hok.bytes e
            exact typed hok.box h1 (by decide)
          have n2 : ¬ f.v.ownBlock = some g := fun e => by
            obtain ⟨_, cs, fr, h1⟩ := hok.bytes e
            exact typed HL4.out.box h1 (by decide)
          obtain ⟨y0, y1, x0, x1⟩ := Box.facts2 (hok.box.keep hon5.keep n1)
          have bg5 := (HL4.out.box.keep hon5.keep n2).setOther (p := ⟨f.blk, 0, none⟩) hgb (.slice A5 (f.bs.length + bs.length) c5)
          have r1 := bg5.cell 1
          have r2 := bg5.free 1
          simp only [List.getElem?_cons_succ, List.getElem?_cons_zero] at r1
          have HW := Lib.hid (HL4.out.wrote HM.out hown5 hon5 HLEN.out HB8.out (by rw [HU4.out]; rw [HRM2.out, ← HRR.out]; exact HFIT.out))
          have HR5 := Lib.hid hr5
          obtain ⟨n5, hn5⟩ : ∃ n, n = f.bs.length := ⟨_, rfl⟩
          obtain ⟨b5, hb5⟩ : ∃ b, b = f.blk := ⟨_, rfl⟩
          rw [← hn5] at f0 hcv HW HR5 r1 r2
          rw [← hb5] at f0 f1 z0 z1 y0 y1 x0 x1 r1 r2 hgb HW ⊢
          have HB5 := Lib.hid hb5
          clear hown hown5 hon5 hr5 hok hv n1 n2 bg5 hn5 hb5
          rw [HU4.out] at HW r1
          go_wp2_with (at_builtin; refine wpList_append_run rfl _ _ 31 rfl rfl rfl HR5.out ?_)
          go_ret
          obtain ⟨S', hA, hK5, hS1, hS2⟩ := HW.out
          refine ⟨S', by rw [E.out]; rfl, ?_, HK4.out.trans hK5 fun _ _ h => h, fun k hk => (hS2 k hk).imp id fun h => Nat.le_trans HK4.out.size h⟩
          rw [E.out]
          have hA' := hA
          rw [HFS2.out] at hA'
          exact hA'
  · have E : Hid (appendM m nm bs = (bad m [nm], (hit m).2)) := Lib.hid (by unfold appendM; rw [if_pos hb0])
    have d1 : ((bad m [nm] : Int) != 0) = true := by rw [bne_iff_ne]; omega
    clear hk1 hL1 HF hb0
    go_wp2_with fail
    go_ret
    exact ⟨S, by rw [E.out]; rfl, by rw [E.out]; exact HL.out.toAt, HK.out.mono fun k hk => by rw [hk]; exact HS.out, fun k hk => .inl hk⟩
end
end Go.Proofs.Ytnbknihaefkllaa.Dk
