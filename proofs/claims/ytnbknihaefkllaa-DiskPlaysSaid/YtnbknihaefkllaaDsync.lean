/- What Sync, Size and Read of package disk answer. -/
import Derived.Test.YtnbknihaefkllaaDops
namespace Go.Proofs.Ytnbknihaefkllaa.Dk
set_option linter.unusedVariables false
set_option linter.unusedSimpArgs false
open Go.RowKit Go.Maps Lift Ik

/-- A number is told, and the disk is then r. -/
def Told (w : World) (g : Nat) (S : Nat → Prop) (r : Nat × MS) (e : Ending) (w' : World) : Prop :=
  ∃ S', e = .returned (.int .i64 (r.1 : Int)) ∧ At w' g S' r.2 ∧ Keep S w w' ∧ ∀ k, S' k → S k ∨ w.heap.size ≤ k
def syncM (m : MS) (nm : ByteArray) : Nat × MS := onFile m [nm] nm (fun e => (e, (hit m).2)) fun f => (0, { (hit m).2 with fs := put1 m.fs ⟨f.nm, f.bs, f.bs.length⟩ })
def sizeM (m : MS) (nm : ByteArray) : Nat × Nat := onFile m [nm] nm (fun e => (e, 0)) fun f => (0, f.bs.length)
def readM (m : MS) (nm : ByteArray) (at' n : Int) : Nat × List Nat :=
  onFile m [nm] nm (fun e => (e, [])) fun f => if at' < 0 ∨ n < 0 ∨ (f.bs.length : Int) < at' then (1, []) else (0, (f.bs.drop at'.toNat).take n.toNat)
theorem own_keep {w w' : World} {T : Nat → Prop} {base size n : Nat} {e : TypeId} {v : Value} {xs : List Value} (h : w.ownsRow base e size v n xs) (hk : Keep T w w') (hT : ∀ k, v.ownBlock = some k → ¬ T k) : w'.ownsRow base e size v n xs := by
  refine ⟨h.1, ?_⟩
  rcases h.2 with h0 | ⟨b, cap, cur, hv, hB, hh, r⟩
  · exact .inl h0
  · exact .inr ⟨b, cap, cur, hv, hB, (hk.block b (Array.getElem?_eq_some_iff.1 hh).1 (hT b (by rw [hv]; simp [Value.ownBlock]))).trans hh, r⟩
theorem syn_not {w : World} {S : Nat → Prop} {f : Fi} (h : f.ok w S) : ∀ k, f.v.ownBlock = some k → ¬ k = f.blk := fun k hk e => by
  obtain ⟨_, cs, fr, h1⟩ := h.bytes hk
  subst e
  exact typed h.box h1 (by decide)

section
variable {w w' : World} {g : Nat} {S S' T : Nat → Prop} {m : MS} {fs : List Fi} {M : Option Nat} {A : Option Addr} {c : Nat}
theorem hit_told (h : Lay w g S m fs M A c) : (hit m).2.fs = fs.map Fi.m := (hit_fs m).1.trans h.told
theorem Lay.toAt (h : Lay w g S m fs M A c) : At w g S m := ⟨_, _, _, _, h⟩
set_option maxHeartbeats 400000 in
theorem sync_any (nm : ByteArray) (h : At w g S m) (hf : m.failed ≤ 1000000) : Calls Try.prog (17) #[.pointer (some ⟨g, 0, none⟩), .string nm] w (Told w g S (syncM m nm)) := by
  obtain ⟨fs, M, A, c, h⟩ := h
  have HF := Lib.hid (find1 nm h hf)
  have HT := Lib.hid h.told
  have HS := Lib.hid h.sg
  have HLT := Lib.hid h.lt
  clear h
  go_enter Try.func17, Try.ntmps17
  go_wp2_with fail
  refine HF.out.mono ?_
  rintro e W1 ⟨A1, c1, hk1, hL1, hc⟩
  have HK := Lib.hid hk1
  have HL := Lib.hid hL1
  rcases hc with ⟨f, hlk, hb0, rfl⟩ | ⟨hne, rfl⟩
  · obtain ⟨hm, hnm⟩ := look_mem hlk
    have hok := hL1.files.ok f hm
    have E : Hid (syncM m nm = (0, { (hit m).2 with fs := put1 m.fs ⟨f.nm, f.bs, f.bs.length⟩ })) := Lib.hid (onFile_yes HT.out hb0 hlk)
    obtain ⟨f0, f1, z0, z1⟩ := hok.box.facts2
    obtain ⟨Av, cv, hv, hcv, hcvm, _⟩ := own_parts hok.own
    have HO := Lib.hid hok
    have HM := Lib.hid hm
    rw [hv] at f0
    clear hk1 hL1 HF hlk hb0 hok hm hnm hv
    obtain ⟨n, hn⟩ : ∃ n, n = f.bs.length := ⟨_, rfl⟩
    rw [← hn] at f0 hcv
    obtain ⟨b, hb⟩ : ∃ b, b = f.blk := ⟨_, rfl⟩
    rw [← hb] at f0 f1 z0 z1 ⊢
    have HN := Lib.hid hn
    have HB := Lib.hid hb
    clear hn hb
    go_wp2_with fail
    go_ret
    refine ⟨S, by rw [E.out]; rfl, ?_, ?_, fun k hk => .inl hk⟩
    · rw [E.out]
      have hk : Keep (Of g f) W1 (W1.setCell ⟨b, 1, none⟩ (.int .i64 (n : Int))) := (Keep.refl _ _).setCell (p := ⟨b, 1, none⟩) (.inr (.inr (.inl HB.out))) _
      have hkb : Keep (· = f.blk) W1 (W1.setCell ⟨b, 1, none⟩ (.int .i64 (n : Int))) := (Keep.refl _ _).setCell (p := ⟨b, 1, none⟩) (.inr HB.out) _
      have hfs := (hit_fs m).1
      have hu : used (put1 (hit m).2.fs ⟨f.nm, f.bs, f.bs.length⟩) = used (hit m).2.fs := by
        have := used_put1 (hit m).2.fs f.m ⟨f.nm, f.bs, f.bs.length⟩ (by rw [HL.out.told]; exact names_apart HL.out.files.sep) (by rw [HL.out.told]; exact List.mem_map.2 ⟨f, HM.out, rfl⟩) rfl
        have e : (f.m).bs.length = f.bs.length := rfl
        simp only at this
        omega
      have hd : g ≠ b := fun e => by
        have h1 := HO.out.box
        rw [← HB.out, ← e] at h1
        exact typed HL.out.box h1 (by decide)
      have hL2 := HL.out.sub (f' := ⟨f.nm, f.blk, f.v, f.bs, f.bs.length⟩) (S' := S) hk HM.out rfl rfl
        ⟨by rw [← HB.out, ← HN.out]; exact (show Box W1 b Ty.file [f.v, .int .i64 (f.syn : Int)] by rw [HB.out]; exact HO.out.box).set 1 _, own_keep HO.out.own hkb (fun k hk => syn_not (f := f) HO.out k hk), HO.out.sb, HO.out.sv, Nat.le_refl _, HO.out.len, HO.out.byte, HO.out.nm⟩
        (fun k hk => .inl hk) (fun _ => id) (fun k hk => by have := HL.out.lt k hk; simpa [World.setCell] using this)
        (by
          show Box _ _ _ [_, .int .i64 (used (put1 (hit m).2.fs ⟨f.nm, f.bs, f.bs.length⟩) : Int), _, _, _]
          rw [hu]
          exact HL.out.box.setOther hd _)
        (by
          show used (put1 (hit m).2.fs ⟨f.nm, f.bs, f.bs.length⟩) ≤ _
          rw [hu]
          exact HL.out.fits)
      have hL3 := hL2.toAt
      rw [hfs] at hL3
      exact hL3
    · exact (HK.out.mono (T := S) fun k hk => by rw [hk]; exact HS.out).setCell (p := ⟨b, 1, none⟩) (.inr (by rw [HB.out]; exact HO.out.sb)) _
  · have E : Hid (syncM m nm = (gone m [nm] (look fs nm), (hit m).2)) := Lib.hid (onFile_no HT.out hne)
    have d1 : ((gone m [nm] (look fs nm) : Int) != 0) = true := by rw [bne_iff_ne]; omega
    clear hk1 hL1 HF hne
    go_wp2_with fail
    go_ret
    exact ⟨S, by rw [E.out]; rfl, by rw [E.out]; exact HL.out.toAt, HK.out.mono fun k hk => by rw [hk]; exact HS.out, fun k hk => .inl hk⟩

theorem size_any (nm : ByteArray) (h : At w g S m) (hf : m.failed ≤ 1000000) : Calls Try.prog (27) #[.pointer (some ⟨g, 0, none⟩), .string nm] w fun e w' =>
    e = .returned (.tuple #[.int .i64 ((sizeM m nm).2 : Int), .int .i64 ((sizeM m nm).1 : Int)]) ∧ At w' g S (hit m).2 ∧ Keep (· = g) w w' := by
  obtain ⟨fs, M, A, c, h⟩ := h
  have HF := Lib.hid (find1 nm h hf)
  have HT := Lib.hid h.told
  clear h
  go_enter Try.func27, Try.ntmps27
  go_wp2_with fail
  refine HF.out.mono ?_
  rintro e W1 ⟨A1, c1, hk1, hL1, hc⟩
  have HK := Lib.hid hk1
  have HL := Lib.hid hL1
  rcases hc with ⟨f, hlk, hb0, rfl⟩ | ⟨hne, rfl⟩
  · have hok := hL1.files.ok f (look_mem hlk).1
    have E : Hid (sizeM m nm = (0, f.bs.length)) := Lib.hid (onFile_yes HT.out hb0 hlk)
    obtain ⟨f0, f1, z0, z1⟩ := hok.box.facts2
    obtain ⟨Av, cv, hv, hcv, hcvm, _⟩ := own_parts hok.own
    rw [hv] at f0
    clear hk1 hL1 HF hlk hb0 hok hv
    go_wp2_with fail
    go_returns
    exact ⟨by rw [E.out]; rfl, HL.out.toAt, HK.out⟩
  · have E : Hid (sizeM m nm = (gone m [nm] (look fs nm), 0)) := Lib.hid (onFile_no HT.out hne)
    have d1 : ((gone m [nm] (look fs nm) : Int) != 0) = true := by rw [bne_iff_ne]; omega
    clear hk1 hL1 HF hne
    go_wp2_with fail
    go_returns
    exact ⟨by rw [E.out]; rfl, HL.out.toAt, HK.out⟩
end
end Go.Proofs.Ytnbknihaefkllaa.Dk
