/- What Append of the document's own disk answers, of a file that is there. -/
import Derived.Test.YtnbknihaefkllaaRren
namespace Go.Proofs.Ytnbknihaefkllaa.Rk
set_option linter.unusedVariables false
set_option linter.unusedSimpArgs false
open Go.RowKit Go.Maps Lift Ik Dk

section
variable {w w' : World} {g : Nat} {S S' T : Nat → Prop} {rm : Int} {m : MS} {L : List D} {A F : Option Addr} {c cf : Nat}
/-- An answer, and the disk. -/
def RTold (w : World) (g : Nat) (S : Nat → Prop) (rm : Int) (r : Nat × MS) (e : Ending) (w' : World) : Prop :=
  ∃ S', e = .returned (.int .i64 (r.1 : Int)) ∧ At w' g S' rm r.2 ∧ Keep S w w' ∧ ∀ k, S' k → S k ∨ w.heap.size ≤ k
theorem rtold_same {n : Nat} {m' : MS} (hL : Lay w' g S rm m' L A F c cf) (hK : Keep (· = g) w w') : RTold w g S rm (n, m') (.returned (.int .i64 (n : Int))) w' :=
  ⟨S, rfl, hL.toAt, hK.mono fun k hk => by rw [hk]; exact hL.sg, fun k hk => .inl hk⟩
/-- The file's bytes are new ones. -/
theorem Lay.wrote {W W' : World} {i gl : Nat} {d : D} {xs : List Nat} {A4 : Option Addr} {c4 : Nat} (h : Lay W g S rm m L (some ⟨gl, 0, none⟩) F c cf) (hd : L[i]? = some d)
    (hb : Below W.heap.size W W') (ho : W'.ownsRow W.heap.size 5 1 (.slice A4 xs.length c4) xs.length (xs.map vb)) (h8 : ∀ x, x ∈ xs → x < 256) (hn : xs.length ≤ 16777216) (hs : d.syn ≤ xs.length) :
    Lay (W'.setCell ⟨gl, i * 3 + 1, none⟩ (.slice A4 xs.length c4)) g (Gr S W W') rm { m with fs := put1 m.fs ⟨d.nm, xs, d.syn⟩ } (L.set i ⟨d.nm, A4, c4, xs, d.syn⟩) (some ⟨gl, 0, none⟩) F c cf := by
  have hlt := (List.getElem?_eq_some_iff.1 hd).1
  have hcl := cellsL_set L i d ⟨d.nm, A4, c4, xs, d.syn⟩ hd rfl
  have hlen := cellsL_length L
  have hown := own_set (u := .slice A4 xs.length c4) (own_keep h.own (below_keep (S := fun _ => False) hb) fun _ _ => id) (show i * 3 + 1 < (cellsL L).length by rw [hlen]; omega)
  have hset : ((cellsL L).set (i * 3 + 1) (.slice A4 xs.length c4)).set (i * 3 + 2) (.int .i64 (d.syn : Int)) = (cellsL L).set (i * 3 + 1) (.slice A4 xs.length c4) := by
    refine set_same ?_
    rw [List.getElem?_set_ne (by omega)]
    exact cellsL_at hd 2 (by omega)
  have hgl : gl < W.heap.size := h.lt gl (h.so gl rfl)
  have hkk : Keep (fun k => (Value.slice (some (⟨gl, 0, none⟩ : Addr)) L.length c).ownBlock = some k) W (W'.setCell ⟨gl, i * 3 + 1, none⟩ (.slice A4 xs.length c4)) := (below_keep (S := fun k => (Value.slice (some (⟨gl, 0, none⟩ : Addr)) L.length c).ownBlock = some k) hb).setCell (p := ⟨gl, i * 3 + 1, none⟩) (.inr rfl) _
  refine h.put (S' := Gr S W W') (d' := ⟨d.nm, A4, c4, xs, d.syn⟩) hd rfl hkk (by rw [hcl]; simp only; rw [hset]; exact hown) ?_ (fun k hk => .inl hk) (fun k hk => ?_)
  · have ho2 := own_keep ho ((Keep.refl (fun j => j = gl) W').setCell (p := ⟨gl, i * 3 + 1, none⟩) (.inr rfl) (.slice A4 xs.length c4)) fun k hk1 e => by
      have h1 := (ho.lt k hk1).1
      omega
    obtain ⟨A5, c5, hv, hcc, hmm, _⟩ := own_parts ho2
    cases hv
    have hty := ho2
    refine ⟨?_, hcc, hmm, h8, hn, hs, (h.ok d (List.mem_of_getElem? hd)).nm⟩
    exact (LiesP.of_own ho2).later (fun _ _ => rfl) fun k hk => ⟨.inr ⟨hk.1, by have := hk.2.1; simpa [World.setCell] using this⟩, hk.2.2⟩
  · rcases hk with hk | hk
    · have := hb.size
      have h2 := h.lt k hk
      have : k < W'.heap.size := by omega
      simpa [World.setCell] using this
    · have := hk.2
      simpa [World.setCell] using this
set_option maxRecDepth 100000 in
set_option maxHeartbeats 1600000 in
theorem rappend_old (nm : ByteArray) (Ab : Option Addr) (cb : Nat) (bs : List Nat) (hn : nm.size ≤ 1000) (h : At w g S rm m) (hf : m.failed ≤ 1000000) (hia : isAt m.fs nm = true) (hb : LiesP w (fun k => ¬ S k ∧ k < w.heap.size) Ab (bs.map vb)) (hbl : bs.length ≤ 1099511627776) (hb8 : ∀ x, x ∈ bs → x < 256) :
    Calls Try.prog (16) #[.pointer (some ⟨g, 0, none⟩), .string nm, .slice Ab bs.length cb] w (RTold w g S rm (appendM m nm bs)) := by
  obtain ⟨L, A, F, c, cf, h⟩ := h
  have HD := Lib.hid (down_any h hf)
  have HT := Lib.hid h.told
  have HSO := Lib.hid h.sorted
  have HSG := Lib.hid h.sg
  have HB := Lib.hid hb
  have HB8 := Lib.hid hb8
  clear h hb hb8
  go_enter Try.func16, Try.ntmps16
  go_wp2_with fail
  refine HD.out.mono ?_
  rintro e W1 ⟨F1, cf1, rfl, hk1, hL1⟩
  have HK := Lib.hid hk1
  have HL := Lib.hid hL1
  clear hk1 hL1 HD
  cases hh : (hit m).1
  · cases hnm : nmB nm
    · have E : Hid (appendM m nm bs = (6, (hit m).2)) := Lib.hid (by
        have hb0 : bad m [nm] = 6 := by unfold bad; rw [hh]; simp [hnm]
        unfold appendM
        rw [hb0, if_pos (by decide)])
      clear hh
      go_wp2_with (go_at_call 43; refine (named_any nm _ hn).mono ?_; rintro e w' ⟨rfl, rfl⟩)
      go_ret
      rw [E.out]
      exact rtold_same HL.out HK.out
    · have HB0 : Hid (bad m [nm] = 0) := Lib.hid (by unfold bad; rw [hh]; simp [hnm])
      have hat := at_any nm HL.out
      have hfs : (hit m).2.fs = m.fs := (hit_fs m).1
      have hrm2 : (hit m).2.room = m.room := (hit_fs m).2
      rw [hfs, hia] at hat
      have HAT := Lib.hid hat
      obtain ⟨f, hf1, hg⟩ := (idx_get (nm := nm) HSO.out).1 hia
      have hd : ∃ d, L[idx m.fs nm]? = some d ∧ d.m = f := by
        rw [HT.out, List.getElem?_map] at hf1
        obtain ⟨d, h1, h2⟩ := Option.map_eq_some_iff.1 hf1
        exact ⟨d, by rw [HT.out]; exact h1, h2⟩
      obtain ⟨d, hd1, rfl⟩ := hd
      have hdn : d.nm = nm := (by simpa using List.find?_some hg : d.m.nm = nm)
      have HD := Lib.hid hd1
      have HDN := Lib.hid hdn
      have HG := Lib.hid hg
      have HFS2 := Lib.hid hfs
      have HRM2 := Lib.hid hrm2
      obtain ⟨i, hi⟩ : ∃ i, i = idx m.fs nm := ⟨_, rfl⟩
      rw [← hi] at HAT HD
      clear hh hat hfs hrm2 hf1 hg hd1 hdn hi hia
      go_wp2_with (go_at_call 43; refine (named_any nm _ hn).mono ?_; rintro e w' ⟨rfl, rfl⟩)
      refine HAT.out.mono ?_
      rintro e W2 ⟨rfl, hb2⟩
      have hL2 := HL.out.keep (T := fun _ => False) (below_keep hb2) fun _ _ => id
      have HK2 : Hid (Keep (· = g) w W2) := Lib.hid (HK.out.trans (T := fun _ => False) (below_keep hb2) fun _ _ h => h.elim)
      have HL2 := Lib.hid hL2
      have hd := HD.out
      have hlt := (List.getElem?_eq_some_iff.1 hd).1
      have hus := hL2.used_le
      have hrw := i64_of hL2.rwf
      have hroom := hL2.room
      obtain ⟨hcap, hcm⟩ := hL2.cap
      obtain ⟨p0, p1, _⟩ := hL2.facts
      obtain ⟨gl, hA, _, q1, _, z1, _⟩ := hL2.place hd
      subst hA
      have hok := hL2.ok d (List.mem_of_getElem? hd)
      have hdl := hok.len
      have HU := Lib.hid (rused_any hL2)
      have HGL : Hid (¬ gl = g) := Lib.hid fun e => by
        subst e
        exact own_apart hL2.own hL2.box (by decide) rfl
      have HLS : Hid (LiesP W2 (fun k => ¬ S k ∧ k < W2.heap.size) Ab (bs.map vb)) := Lib.hid (HB.out.later (fun k hk => HK2.out.block k hk.2 fun e => hk.1 (by rw [e]; exact HSG.out)) fun k hk => ⟨hk.1, Nat.lt_of_lt_of_le hk.2 HK2.out.size⟩)
      obtain ⟨U, hU⟩ : ∃ U, U = used (hit m).2.fs := ⟨_, rfl⟩
      rw [← hU] at HU hus
      have HUU := Lib.hid hU
      obtain ⟨nb, hnb⟩ : ∃ nb, nb = d.bs.length := ⟨_, rfl⟩
      rw [← hnb] at q1 hdl
      have HNB := Lib.hid hnb
      have HP := Lib.hid p1
      have Q1 := Lib.hid q1
      have Z1 := Lib.hid z1
      have HR : Hid (m.room = rm.toNat) := Lib.hid (by rw [← HRM2.out]; exact hroom)
      have HM : Hid (lenOf (Dk.get m.fs nm) = nb) := Lib.hid (by rw [HG.out, hnb]; rfl)
      have HUM : Hid (U = used m.fs) := Lib.hid (by rw [hU, HFS2.out])
      clear hb2 hL2 hd hroom hok hU hnb HAT z1
      by_cases k1 : 16777216 < nb + bs.length
      · have d1 : decide ((16777216 : Int) < (nb : Int) + (bs.length : Int)) = true := by simp; omega
        have E : Hid (appendM m nm bs = (3, (hit m).2)) := Lib.hid (by
          unfold appendM
          rw [if_neg (by have := HB0.out; omega), if_pos (.inl (by rw [HM.out]; exact k1))])
        clear k1
        go_wp2_with fail
        go_ret
        rw [E.out]
        exact rtold_same HL2.out HK2.out
      · have d1 : decide ((16777216 : Int) < (nb : Int) + (bs.length : Int)) = false := by simp; omega
        have E0 : Hid (appendM m nm bs = if m.room < used m.fs + bs.length then (7, (hit m).2) else (0, { (hit m).2 with fs := put1 m.fs ⟨d.nm, d.bs ++ bs, d.syn⟩ })) := Lib.hid (by
          have hg := HG.out
          unfold appendM
          have hno : ¬ (16777216 < lenOf (Dk.get m.fs nm) + bs.length ∨ (Dk.get m.fs nm).isNone = true ∧ 1000 ≤ m.fs.length) := fun h1 => by
            rw [HM.out, hg] at h1
            rcases h1 with h1 | h1
            · exact k1 h1
            · exact absurd h1.1 (by simp)
          rw [if_neg (by have := HB0.out; omega), if_neg hno, hg]
          rfl)
        have hok := HL2.out.ok d (List.mem_of_getElem? HD.out)
        have hlies : Lies W2 W2.heap.size d.a (d.bs.map vb) := hok.lies.lies fun k hk => HL2.out.lt k hk.1
        obtain ⟨A3, c3, W3, hr3, hown3, hb3⟩ := fresh_bytes d.a d.c _ d.bs W2.drew (hlies.below ((Below.refl _ _).drew)) (by rw [← HNB.out]; omega)
        have hb3' : Below W2.heap.size W2 W3 := (Below.refl W2.heap.size W2).drew.trans hb3
        have hl4 : Lies W3 W2.heap.size Ab (bs.map vb) := (HLS.out.lies fun k hk => hk.2).below hb3'
        obtain ⟨v4, W4, hr4, hown4, hb4, hz4⟩ := run_append_lies (P := Try.prog) (w := W3) (base := W2.heap.size) (m := bs.length) (c := cb) 31 31 5 (.int .u8 0) 1 1 Try.underlying31 (by kernel_rfl) rfl (by decide)
          (fun u hu => by simp at hu; obtain ⟨_, _, rfl⟩ := hu; rfl) hown3 hl4 (by simp) (by rw [← HNB.out]; unfold maxLen; omega) (by rw [← HNB.out]; omega) hb3'.size
        have hb4' : Below W2.heap.size W2 W4 := hb3'.trans hb4
        rw [← List.map_append, ← List.length_append] at hown4
        obtain ⟨A4, c4, rfl, _, _, _⟩ := own_parts hown4
        have hfin := HL2.out.wrote (i := i) (d := d) (xs := d.bs ++ bs) HD.out hb4' hown4 (fun x hx => by
          rcases List.mem_append.1 hx with h1 | h1
          · exact hok.byte x h1
          · exact HB8.out x h1) (by rw [List.length_append, ← HNB.out]; omega) (by rw [List.length_append]; have := hok.syn; omega)
        have FIN : Hid (∀ W', W' = W4.setCell ⟨gl, i * 3 + 1, none⟩ (.slice A4 (d.bs ++ bs).length c4) → RTold w g S rm (0, { (hit m).2 with fs := put1 m.fs ⟨d.nm, d.bs ++ bs, d.syn⟩ }) (.returned (.int .i64 0)) W') := Lib.hid (by
          rintro W' rfl
          refine ⟨Gr S W2 W4, rfl, ?_, ?_, fun k hk => hk.imp id fun h => Nat.le_trans HK2.out.size h.1⟩
          · have h1 := hfin.toAt
            rw [HFS2.out] at h1
            exact h1
          · exact ((HK2.out.mono (T := S) fun k hk => by rw [hk]; exact HSG.out).trans (T := fun _ => False) (below_keep hb4') fun _ _ h => h.elim).setCell (p := ⟨gl, i * 3 + 1, none⟩) (.inr (HL2.out.so gl rfl)) _)
        have hL4 := HL2.out.keep (T := fun _ => False) (below_keep hb4') fun _ _ => id
        obtain ⟨gl', hA', _, q2, _, z2, _⟩ := hL4.place HD.out
        cases hA'
        obtain ⟨n4, hn4⟩ : ∃ n4, n4 = (d.bs ++ bs).length := ⟨_, rfl⟩
        rw [← hn4] at FIN hr4
        rw [← HNB.out] at hr3 hr4 q2
        have HR3 := Lib.hid hr3
        have HR4 := Lib.hid hr4
        have HB3 := Lib.hid hb3'
        have HB4 := Lib.hid hb4'
        have Q2 := Lib.hid q2
        have Z2 := Lib.hid z2
        clear hok hlies hr3 hown3 hb3 hb3' hl4 hr4 hown4 hb4 hz4 hb4' hfin hL4 q2 z2 hn4
        by_cases kr : rm < 0
        · have d2 : decide (rm < 0) = true := decide_eq_true kr
          have hm0 : m.room = 0 := by have := HR.out; omega
          by_cases k3 : 0 < U + bs.length
          · have d3 : decide ((0 : Int) < (U : Int) + (bs.length : Int)) = true := by simp; omega
            have E : Hid (appendM m nm bs = (7, (hit m).2)) := Lib.hid (by rw [E0.out, hm0, ← HUM.out, if_pos k3])
            clear k1 k3 kr hm0
            go_wp2_with (go_at_call 30; refine HU.out.mono ?_; rintro e w' ⟨rfl, rfl⟩)
            go_ret
            rw [E.out]
            exact rtold_same HL2.out HK2.out
          · have d3 : decide ((0 : Int) < (U : Int) + (bs.length : Int)) = false := by simp; omega
            have E : Hid (appendM m nm bs = (0, { (hit m).2 with fs := put1 m.fs ⟨d.nm, d.bs ++ bs, d.syn⟩ })) := Lib.hid (by rw [E0.out, hm0, ← HUM.out, if_neg k3])
            clear k1 k3 kr hm0
            go_wp2_with (go_at_call 30; refine HU.out.mono ?_; rintro e w' ⟨rfl, rfl⟩)
            refine wp_region_held_drew (S := fun w' => Hid (Keep (fun j => j = gl) W2 w')) (by kernel_rfl) (Lib.hid (Keep.refl _ _).drew) (fun hS => ?_)
            refine wpAnyH_take (i := 0) (v := ?_) rfl (by kernel_rfl) (by kernel_rfl) (by kernel_rfl) (fun _ _ _ h => h) (Or.inl ⟨by rfl, ?_⟩) hS ?_
            rotate_left
            · intro w hw
              go_simp
              try with_reducible rfl
            try simp only [Act.put, List.getElem_toArray, List.getElem_cons_succ, List.getElem_cons_zero, List.setIfInBounds_toArray, List.set_cons_zero, List.set_cons_succ]
            refine wpAnyH_take (i := 1) (v := ?_) rfl (by kernel_rfl) (by kernel_rfl) (by kernel_rfl) (fun _ _ _ h => h) (Or.inl ⟨by rfl, ?_⟩) hS ?_
            rotate_left
            · intro w hw
              go_simp
              try with_reducible rfl
            try simp only [Act.put, List.getElem_toArray, List.getElem_cons_succ, List.getElem_cons_zero, List.setIfInBounds_toArray, List.set_cons_zero, List.set_cons_succ]
            refine wpAnyH_take (i := 2) (v := ?_) rfl (by kernel_rfl) (by kernel_rfl) (by kernel_rfl) (fun _ _ _ h => h) (Or.inl ⟨by rfl, ?_⟩) hS ?_
            rotate_left
            · intro w hw
              go_simp
              try with_reducible rfl
            try simp only [Act.put, List.getElem_toArray, List.getElem_cons_succ, List.getElem_cons_zero, List.setIfInBounds_toArray, List.set_cons_zero, List.set_cons_succ]
            refine wpAnyH_take (i := 3) (v := ?_) rfl (by kernel_rfl) (by kernel_rfl) (by kernel_rfl) (fun _ _ _ h => h) (Or.inl ⟨by rfl, ?_⟩) hS ?_
            rotate_left
            · intro w hw
              have p1 : w.cell? ⟨g, 1, none⟩ = some (.slice (some ⟨gl, 0, none⟩) L.length c) := (World.cell?_of_block (w := W2) (hw.out.block g (HL2.out.lt g HL2.out.sg) (fun e => HGL.out e.symm))).trans HP.out
              go_simp
              try with_reducible rfl
            try simp only [Act.put, List.getElem_toArray, List.getElem_cons_succ, List.getElem_cons_zero, List.setIfInBounds_toArray, List.set_cons_zero, List.set_cons_succ]
            refine wpAnyH_take (i := 4) (v := ?_) rfl (by kernel_rfl) (by kernel_rfl) (by kernel_rfl) (fun _ _ _ h => h) (Or.inl ⟨by rfl, ?_⟩) hS ?_
            rotate_left
            · intro w hw
              go_simp
              try with_reducible rfl
            try simp only [Act.put, List.getElem_toArray, List.getElem_cons_succ, List.getElem_cons_zero, List.setIfInBounds_toArray, List.set_cons_zero, List.set_cons_succ]
            refine wpAnyH_take (i := 5) (v := ?_) rfl (by kernel_rfl) (by kernel_rfl) (by kernel_rfl) (fun _ _ _ h => h) (Or.inl ⟨by rfl, ?_⟩) hS ?_
            rotate_left
            · intro w hw
              go_simp
              try with_reducible rfl
            try simp only [Act.put, List.getElem_toArray, List.getElem_cons_succ, List.getElem_cons_zero, List.setIfInBounds_toArray, List.set_cons_zero, List.set_cons_succ]
            refine wpAnyH_take (i := 6) (v := ?_) rfl (by kernel_rfl) (by kernel_rfl) (by kernel_rfl) (fun _ _ _ h => h) (Or.inl ⟨by rfl, ?_⟩) hS ?_
            rotate_left
            · intro w hw
              go_simp
              try with_reducible rfl
            try simp only [Act.put, List.getElem_toArray, List.getElem_cons_succ, List.getElem_cons_zero, List.setIfInBounds_toArray, List.set_cons_zero, List.set_cons_succ]
            refine wpAnyH_take (i := 7) (v := ?_) rfl (by kernel_rfl) (by kernel_rfl) (by kernel_rfl) (fun _ _ _ h => h) (Or.inl ⟨by rfl, ?_⟩) hS ?_
            rotate_left
            · intro w hw
              go_simp
              try with_reducible rfl
            try simp only [Act.put, List.getElem_toArray, List.getElem_cons_succ, List.getElem_cons_zero, List.setIfInBounds_toArray, List.set_cons_zero, List.set_cons_succ]
            refine wpAnyH_take (i := 8) (v := ?_) rfl (by kernel_rfl) (by kernel_rfl) (by kernel_rfl) (fun _ _ _ h => h) (Or.inl ⟨by rfl, ?_⟩) hS ?_
            rotate_left
            · intro w hw
              have p1 : w.cell? ⟨g, 1, none⟩ = some (.slice (some ⟨gl, 0, none⟩) L.length c) := (World.cell?_of_block (w := W2) (hw.out.block g (HL2.out.lt g HL2.out.sg) (fun e => HGL.out e.symm))).trans HP.out
              go_simp
              try with_reducible rfl
            try simp only [Act.put, List.getElem_toArray, List.getElem_cons_succ, List.getElem_cons_zero, List.setIfInBounds_toArray, List.set_cons_zero, List.set_cons_succ]
            refine wpAnyH_take (i := 9) (v := ?_) rfl (by kernel_rfl) (by kernel_rfl) (by kernel_rfl) (fun _ _ _ h => h) (Or.inl ⟨by rfl, ?_⟩) hS ?_
            rotate_left
            · intro w hw
              go_simp
              try with_reducible rfl
            try simp only [Act.put, List.getElem_toArray, List.getElem_cons_succ, List.getElem_cons_zero, List.setIfInBounds_toArray, List.set_cons_zero, List.set_cons_succ]
            refine wpAnyH_take (i := 10) (v := ?_) rfl (by kernel_rfl) (by kernel_rfl) (by kernel_rfl) (fun _ _ _ h => h) (Or.inl ⟨by rfl, ?_⟩) hS ?_
            rotate_left
            · intro w hw
              go_simp
              try with_reducible rfl
            try simp only [Act.put, List.getElem_toArray, List.getElem_cons_succ, List.getElem_cons_zero, List.setIfInBounds_toArray, List.set_cons_zero, List.set_cons_succ]
            refine wpAnyH_take (i := 11) (v := ?_) rfl (by kernel_rfl) (by kernel_rfl) (by kernel_rfl) (fun _ _ _ h => h) (Or.inl ⟨by rfl, ?_⟩) hS ?_
            rotate_left
            · intro w hw
              go_simp
              try with_reducible rfl
            try simp only [Act.put, List.getElem_toArray, List.getElem_cons_succ, List.getElem_cons_zero, List.setIfInBounds_toArray, List.set_cons_zero, List.set_cons_succ]
            refine wpAnyH_take (i := 14) (v := ?_) rfl (by kernel_rfl) (by kernel_rfl) (by kernel_rfl) (fun _ _ _ h => h) (Or.inl ⟨by rfl, ?_⟩) hS ?_
            rotate_left
            · intro w hw
              go_simp
              try with_reducible rfl
            try simp only [Act.put, List.getElem_toArray, List.getElem_cons_succ, List.getElem_cons_zero, List.setIfInBounds_toArray, List.set_cons_zero, List.set_cons_succ]
            refine wpAnyH_ready (rs := [12]) (by kernel_rfl) (by simp) ?_
            refine AllReadyH.cons rfl (fun K hK => ?_) AllReadyH.nil
            have q1 : W2.cell? ⟨gl, i * 3 + 1, none⟩ = some (.slice d.a nb d.c) := Q1.out
            go_simp
            refine hK.out _ _ hS (fun hS => ?_)
            clear hK K q1
            try simp only [Act.put, List.getElem_toArray, List.getElem_cons_succ, List.getElem_cons_zero, List.setIfInBounds_toArray, List.set_cons_zero, List.set_cons_succ]
            refine wpAnyH_ready (rs := [13]) (by kernel_rfl) (by simp) ?_
            refine AllReadyH.cons rfl (fun K hK => ?_) AllReadyH.nil
            refine held_append rfl _ _ 31 rfl rfl rfl HR3.out ?_
            refine hK.out _ _ (Lib.hid (below_keep (S := fun j => j = gl) HB3.out)) (fun hS => ?_)
            clear hK K
            try simp only [Act.put, List.getElem_toArray, List.getElem_cons_succ, List.getElem_cons_zero, List.setIfInBounds_toArray, List.set_cons_zero, List.set_cons_succ]
            refine wpAnyH_ready (rs := [15]) (by kernel_rfl) (by simp) ?_
            refine AllReadyH.cons rfl (fun K hK => ?_) AllReadyH.nil
            refine held_append rfl _ _ 31 rfl rfl rfl HR4.out ?_
            refine hK.out _ _ (Lib.hid (below_keep (S := fun j => j = gl) HB4.out)) (fun hS => ?_)
            clear hK K
            try simp only [Act.put, List.getElem_toArray, List.getElem_cons_succ, List.getElem_cons_zero, List.setIfInBounds_toArray, List.set_cons_zero, List.set_cons_succ]
            refine wpAnyH_take (i := 16) (v := ?_) rfl (by kernel_rfl) (by kernel_rfl) (by kernel_rfl) (fun _ _ _ h => h) (Or.inl ⟨by rfl, ?_⟩) hS ?_
            rotate_left
            · intro w hw
              go_simp
              try with_reducible rfl
            try simp only [Act.put, List.getElem_toArray, List.getElem_cons_succ, List.getElem_cons_zero, List.setIfInBounds_toArray, List.set_cons_zero, List.set_cons_succ]
            refine wpAnyH_take (i := 17) (v := ?_) rfl (by kernel_rfl) (by kernel_rfl) (by kernel_rfl) (fun _ _ _ h => h) (Or.inl ⟨by rfl, ?_⟩) hS ?_
            rotate_left
            · intro w hw
              go_simp
              try with_reducible rfl
            try simp only [Act.put, List.getElem_toArray, List.getElem_cons_succ, List.getElem_cons_zero, List.setIfInBounds_toArray, List.set_cons_zero, List.set_cons_succ]
            refine wpAnyH_ready (rs := [18]) (by kernel_rfl) (by simp) ?_
            refine AllReadyH.cons rfl (fun K hK => ?_) AllReadyH.nil
            have q2 := Q2.out
            have z2 := Z2.out
            go_simp
            refine hK.out _ _ (Lib.hid ((below_keep (S := fun j => j = gl) HB4.out).setCell (p := ⟨gl, i * 3 + 1, none⟩) (.inr rfl) _)) (fun hS => ?_)
            clear hK K q2 z2
            try simp only [Act.put, List.getElem_toArray, List.getElem_cons_succ, List.getElem_cons_zero, List.setIfInBounds_toArray, List.set_cons_zero, List.set_cons_succ]
            refine wpAnyH_done (by kernel_rfl) ?_ _
            go_wp2_with fail
            go_ret
            rw [E.out]
            exact FIN.out _ rfl
        · obtain ⟨R, rfl⟩ : ∃ R : Nat, rm = (R : Int) := ⟨rm.toNat, by omega⟩
          have d2 : decide ((R : Int) < 0) = false := decide_eq_false kr
          have hm0 : m.room = R := by have := HR.out; omega
          by_cases k3 : R < U + bs.length
          · have d3 : decide ((R : Int) < (U : Int) + (bs.length : Int)) = true := by simp; omega
            have E : Hid (appendM m nm bs = (7, (hit m).2)) := Lib.hid (by rw [E0.out, hm0, ← HUM.out, if_pos k3])
            clear k1 k3 kr hm0
            go_wp2_with (go_at_call 30; refine HU.out.mono ?_; rintro e w' ⟨rfl, rfl⟩)
            go_ret
            rw [E.out]
            exact rtold_same HL2.out HK2.out
          · have d3 : decide ((R : Int) < (U : Int) + (bs.length : Int)) = false := by simp; omega
            have E : Hid (appendM m nm bs = (0, { (hit m).2 with fs := put1 m.fs ⟨d.nm, d.bs ++ bs, d.syn⟩ })) := Lib.hid (by rw [E0.out, hm0, ← HUM.out, if_neg k3])
            clear k1 k3 kr hm0
            go_wp2_with (go_at_call 30; refine HU.out.mono ?_; rintro e w' ⟨rfl, rfl⟩)
            refine wp_region_held_drew (S := fun w' => Hid (Keep (fun j => j = gl) W2 w')) (by kernel_rfl) (Lib.hid (Keep.refl _ _).drew) (fun hS => ?_)
            refine wpAnyH_take (i := 0) (v := ?_) rfl (by kernel_rfl) (by kernel_rfl) (by kernel_rfl) (fun _ _ _ h => h) (Or.inl ⟨by rfl, ?_⟩) hS ?_
            rotate_left
            · intro w hw
              go_simp
              try with_reducible rfl
            try simp only [Act.put, List.getElem_toArray, List.getElem_cons_succ, List.getElem_cons_zero, List.setIfInBounds_toArray, List.set_cons_zero, List.set_cons_succ]
            refine wpAnyH_take (i := 1) (v := ?_) rfl (by kernel_rfl) (by kernel_rfl) (by kernel_rfl) (fun _ _ _ h => h) (Or.inl ⟨by rfl, ?_⟩) hS ?_
            rotate_left
            · intro w hw
              go_simp
              try with_reducible rfl
            try simp only [Act.put, List.getElem_toArray, List.getElem_cons_succ, List.getElem_cons_zero, List.setIfInBounds_toArray, List.set_cons_zero, List.set_cons_succ]
            refine wpAnyH_take (i := 2) (v := ?_) rfl (by kernel_rfl) (by kernel_rfl) (by kernel_rfl) (fun _ _ _ h => h) (Or.inl ⟨by rfl, ?_⟩) hS ?_
            rotate_left
            · intro w hw
              go_simp
              try with_reducible rfl
            try simp only [Act.put, List.getElem_toArray, List.getElem_cons_succ, List.getElem_cons_zero, List.setIfInBounds_toArray, List.set_cons_zero, List.set_cons_succ]
            refine wpAnyH_take (i := 3) (v := ?_) rfl (by kernel_rfl) (by kernel_rfl) (by kernel_rfl) (fun _ _ _ h => h) (Or.inl ⟨by rfl, ?_⟩) hS ?_
            rotate_left
            · intro w hw
              have p1 : w.cell? ⟨g, 1, none⟩ = some (.slice (some ⟨gl, 0, none⟩) L.length c) := (World.cell?_of_block (w := W2) (hw.out.block g (HL2.out.lt g HL2.out.sg) (fun e => HGL.out e.symm))).trans HP.out
              go_simp
              try with_reducible rfl
            try simp only [Act.put, List.getElem_toArray, List.getElem_cons_succ, List.getElem_cons_zero, List.setIfInBounds_toArray, List.set_cons_zero, List.set_cons_succ]
            refine wpAnyH_take (i := 4) (v := ?_) rfl (by kernel_rfl) (by kernel_rfl) (by kernel_rfl) (fun _ _ _ h => h) (Or.inl ⟨by rfl, ?_⟩) hS ?_
            rotate_left
            · intro w hw
              go_simp
              try with_reducible rfl
            try simp only [Act.put, List.getElem_toArray, List.getElem_cons_succ, List.getElem_cons_zero, List.setIfInBounds_toArray, List.set_cons_zero, List.set_cons_succ]
            refine wpAnyH_take (i := 5) (v := ?_) rfl (by kernel_rfl) (by kernel_rfl) (by kernel_rfl) (fun _ _ _ h => h) (Or.inl ⟨by rfl, ?_⟩) hS ?_
            rotate_left
            · intro w hw
              go_simp
              try with_reducible rfl
            try simp only [Act.put, List.getElem_toArray, List.getElem_cons_succ, List.getElem_cons_zero, List.setIfInBounds_toArray, List.set_cons_zero, List.set_cons_succ]
            refine wpAnyH_take (i := 6) (v := ?_) rfl (by kernel_rfl) (by kernel_rfl) (by kernel_rfl) (fun _ _ _ h => h) (Or.inl ⟨by rfl, ?_⟩) hS ?_
            rotate_left
            · intro w hw
              go_simp
              try with_reducible rfl
            try simp only [Act.put, List.getElem_toArray, List.getElem_cons_succ, List.getElem_cons_zero, List.setIfInBounds_toArray, List.set_cons_zero, List.set_cons_succ]
            refine wpAnyH_take (i := 7) (v := ?_) rfl (by kernel_rfl) (by kernel_rfl) (by kernel_rfl) (fun _ _ _ h => h) (Or.inl ⟨by rfl, ?_⟩) hS ?_
            rotate_left
            · intro w hw
              go_simp
              try with_reducible rfl
            try simp only [Act.put, List.getElem_toArray, List.getElem_cons_succ, List.getElem_cons_zero, List.setIfInBounds_toArray, List.set_cons_zero, List.set_cons_succ]
            refine wpAnyH_take (i := 8) (v := ?_) rfl (by kernel_rfl) (by kernel_rfl) (by kernel_rfl) (fun _ _ _ h => h) (Or.inl ⟨by rfl, ?_⟩) hS ?_
            rotate_left
            · intro w hw
              have p1 : w.cell? ⟨g, 1, none⟩ = some (.slice (some ⟨gl, 0, none⟩) L.length c) := (World.cell?_of_block (w := W2) (hw.out.block g (HL2.out.lt g HL2.out.sg) (fun e => HGL.out e.symm))).trans HP.out
              go_simp
              try with_reducible rfl
            try simp only [Act.put, List.getElem_toArray, List.getElem_cons_succ, List.getElem_cons_zero, List.setIfInBounds_toArray, List.set_cons_zero, List.set_cons_succ]
            refine wpAnyH_take (i := 9) (v := ?_) rfl (by kernel_rfl) (by kernel_rfl) (by kernel_rfl) (fun _ _ _ h => h) (Or.inl ⟨by rfl, ?_⟩) hS ?_
            rotate_left
            · intro w hw
              go_simp
              try with_reducible rfl
            try simp only [Act.put, List.getElem_toArray, List.getElem_cons_succ, List.getElem_cons_zero, List.setIfInBounds_toArray, List.set_cons_zero, List.set_cons_succ]
            refine wpAnyH_take (i := 10) (v := ?_) rfl (by kernel_rfl) (by kernel_rfl) (by kernel_rfl) (fun _ _ _ h => h) (Or.inl ⟨by rfl, ?_⟩) hS ?_
            rotate_left
            · intro w hw
              go_simp
              try with_reducible rfl
            try simp only [Act.put, List.getElem_toArray, List.getElem_cons_succ, List.getElem_cons_zero, List.setIfInBounds_toArray, List.set_cons_zero, List.set_cons_succ]
            refine wpAnyH_take (i := 11) (v := ?_) rfl (by kernel_rfl) (by kernel_rfl) (by kernel_rfl) (fun _ _ _ h => h) (Or.inl ⟨by rfl, ?_⟩) hS ?_
            rotate_left
            · intro w hw
              go_simp
              try with_reducible rfl
            try simp only [Act.put, List.getElem_toArray, List.getElem_cons_succ, List.getElem_cons_zero, List.setIfInBounds_toArray, List.set_cons_zero, List.set_cons_succ]
            refine wpAnyH_take (i := 14) (v := ?_) rfl (by kernel_rfl) (by kernel_rfl) (by kernel_rfl) (fun _ _ _ h => h) (Or.inl ⟨by rfl, ?_⟩) hS ?_
            rotate_left
            · intro w hw
              go_simp
              try with_reducible rfl
            try simp only [Act.put, List.getElem_toArray, List.getElem_cons_succ, List.getElem_cons_zero, List.setIfInBounds_toArray, List.set_cons_zero, List.set_cons_succ]
            refine wpAnyH_ready (rs := [12]) (by kernel_rfl) (by simp) ?_
            refine AllReadyH.cons rfl (fun K hK => ?_) AllReadyH.nil
            have q1 : W2.cell? ⟨gl, i * 3 + 1, none⟩ = some (.slice d.a nb d.c) := Q1.out
            go_simp
            refine hK.out _ _ hS (fun hS => ?_)
            clear hK K q1
            try simp only [Act.put, List.getElem_toArray, List.getElem_cons_succ, List.getElem_cons_zero, List.setIfInBounds_toArray, List.set_cons_zero, List.set_cons_succ]
            refine wpAnyH_ready (rs := [13]) (by kernel_rfl) (by simp) ?_
            refine AllReadyH.cons rfl (fun K hK => ?_) AllReadyH.nil
            refine held_append rfl _ _ 31 rfl rfl rfl HR3.out ?_
            refine hK.out _ _ (Lib.hid (below_keep (S := fun j => j = gl) HB3.out)) (fun hS => ?_)
            clear hK K
            try simp only [Act.put, List.getElem_toArray, List.getElem_cons_succ, List.getElem_cons_zero, List.setIfInBounds_toArray, List.set_cons_zero, List.set_cons_succ]
            refine wpAnyH_ready (rs := [15]) (by kernel_rfl) (by simp) ?_
            refine AllReadyH.cons rfl (fun K hK => ?_) AllReadyH.nil
            refine held_append rfl _ _ 31 rfl rfl rfl HR4.out ?_
            refine hK.out _ _ (Lib.hid (below_keep (S := fun j => j = gl) HB4.out)) (fun hS => ?_)
            clear hK K
            try simp only [Act.put, List.getElem_toArray, List.getElem_cons_succ, List.getElem_cons_zero, List.setIfInBounds_toArray, List.set_cons_zero, List.set_cons_succ]
            refine wpAnyH_take (i := 16) (v := ?_) rfl (by kernel_rfl) (by kernel_rfl) (by kernel_rfl) (fun _ _ _ h => h) (Or.inl ⟨by rfl, ?_⟩) hS ?_
            rotate_left
            · intro w hw
              go_simp
              try with_reducible rfl
            try simp only [Act.put, List.getElem_toArray, List.getElem_cons_succ, List.getElem_cons_zero, List.setIfInBounds_toArray, List.set_cons_zero, List.set_cons_succ]
            refine wpAnyH_take (i := 17) (v := ?_) rfl (by kernel_rfl) (by kernel_rfl) (by kernel_rfl) (fun _ _ _ h => h) (Or.inl ⟨by rfl, ?_⟩) hS ?_
            rotate_left
            · intro w hw
              go_simp
              try with_reducible rfl
            try simp only [Act.put, List.getElem_toArray, List.getElem_cons_succ, List.getElem_cons_zero, List.setIfInBounds_toArray, List.set_cons_zero, List.set_cons_succ]
            refine wpAnyH_ready (rs := [18]) (by kernel_rfl) (by simp) ?_
            refine AllReadyH.cons rfl (fun K hK => ?_) AllReadyH.nil
            have q2 := Q2.out
            have z2 := Z2.out
            go_simp
            refine hK.out _ _ (Lib.hid ((below_keep (S := fun j => j = gl) HB4.out).setCell (p := ⟨gl, i * 3 + 1, none⟩) (.inr rfl) _)) (fun hS => ?_)
            clear hK K q2 z2
            try simp only [Act.put, List.getElem_toArray, List.getElem_cons_succ, List.getElem_cons_zero, List.setIfInBounds_toArray, List.set_cons_zero, List.set_cons_succ]
            refine wpAnyH_done (by kernel_rfl) ?_ _
            go_wp2_with fail
            go_ret
            rw [E.out]
            exact FIN.out _ rfl
  · have E : Hid (appendM m nm bs = (11, (hit m).2)) := Lib.hid (by
      have hb0 : bad m [nm] = 11 := by unfold bad; rw [hh]; rfl
      unfold appendM
      rw [hb0, if_pos (by decide)])
    clear hh
    go_wp2_with fail
    go_ret
    rw [E.out]
    exact rtold_same HL.out HK.out
end
end Go.Proofs.Ytnbknihaefkllaa.Rk
