/- The document's own buffers: Ask, Add, Seal, Done, Sizes, Bytes. -/
import Derived.Test.YtmnhklfljfglhaaRbuf
import Derived.Deep.DeepCutAuto
namespace Go.Proofs.Ytmnhklfljfglhaa.Bu
set_option linter.unusedVariables false
set_option linter.unusedSimpArgs false
open Go.RowKit Lift Ik
/-- append([]int(nil), xs...). -/
theorem fresh_ints (A : Option Addr) (c B n : Nat) (xs : List Nat) (W : World) (hl : Lies W B A (xs.map vi)) (he : xs.length = n) (hn : n ≤ 1000000) :
    ∃ A2 c2 W2, Sem.run Try.prog (Builtin.append_ #[23, 23] 23 #[.slice none 0 0, .slice A n c]) W = .ok (.slice A2 n c2) W2 ∧
      W2.ownsRow W.heap.size 3 1 (.slice A2 n c2) n (xs.map vi) ∧ Below W.heap.size W W2 := by
  subst he
  obtain ⟨v2, W2, hr2, hown, hb2, hs2⟩ := run_append_lies (P := Try.prog) (w := W) (base := W.heap.size) (m := xs.length) (c := c) 23 23 3 (.int .i64 0) 1 8 Try.underlying23 (by kernel_rfl) rfl (by decide)
      (fun u hu => by simp at hu; obtain ⟨_, _, rfl⟩ := hu; rfl) (World.ownsRow_nil _ _ _ _) hl (by simp) (by unfold maxLen; omega) (by omega) (Nat.le_refl _)
  rw [Nat.zero_add, List.nil_append] at hown
  obtain ⟨A2, c2, rfl, -, -, -⟩ := own_parts hown
  exact ⟨A2, c2, W2, hr2, hown, hb2⟩
theorem own_some {w : World} {base n : Nat} {e : TypeId} {v : Value} {xs : List Value} (h : w.ownsRow base e 1 v (n + 1) xs) : ∃ p c, v = .slice (some ⟨p, 0, none⟩) (n + 1) c ∧ base ≤ p ∧ p < w.heap.size := by
  rcases h.2 with ⟨_, h0⟩ | ⟨g, cap, cur, rfl, hB, hh, _⟩
  · cases h0
  · exact ⟨g, cap, rfl, hB, (Array.getElem?_eq_some_iff.1 hh).1⟩
section
variable {w w' : World} {g bu mo ac p c : Nat} {S : Nat → Prop} {fs : List Nat}
def RWent (w : World) (g : Nat) (S : Nat → Prop) (bu mo : Nat) (fs : List Nat) (ac : Nat) (w' : World) : Prop := ∃ S', RB w' g S' bu mo fs ac ∧ Keep S w w' ∧ ∀ k, S' k → S k ∨ w.heap.size ≤ k
theorem RWent.stay (h : RB w g S bu mo fs ac) (hb : Below w.heap.size w w') : RWent w g S bu mo fs ac w' := ⟨S, h.below hb, below_keep hb, fun k hk => .inl hk⟩
theorem RWent.drawn {n : Nat} (h : RWent (w.drewN n) g S bu mo fs ac w') : RWent w g S bu mo fs ac w' := by
  obtain ⟨S', h1, h2, h3⟩ := h
  exact ⟨S', h1, ⟨h2.os, h2.tape, h2.output, h2.size, h2.block⟩, h3⟩
theorem RWent.drew (h : RWent w.drew g S bu mo fs ac w') : RWent w g S bu mo fs ac w' := by
  obtain ⟨S', h1, h2, h3⟩ := h
  exact ⟨S', h1, ⟨h2.os, h2.tape, h2.output, h2.size, h2.block⟩, h3⟩
theorem RWent.after {w w1 w2 : World} {S1 : Nat → Prop} (hk : Keep S w w1) (hs : ∀ k, S1 k → S k ∨ w.heap.size ≤ k) (h : RWent w1 g S1 bu mo fs ac w2) : RWent w g S bu mo fs ac w2 := by
  obtain ⟨S2, h1, h2, h3⟩ := h
  exact ⟨S2, h1, hk.trans h2 (fun k hk h4 => (hs k h4).elim id fun h5 => absurd hk (Nat.not_lt_of_le h5)), fun k h4 => (h3 k h4).elim (hs k) fun h5 => .inr (Nat.le_trans hk.size h5)⟩
theorem RWent.post {w1 w2 : World} (h : RWent w g S bu mo fs ac w1) (hb : Below w1.heap.size w1 w2) : RWent w g S bu mo fs ac w2 := by
  obtain ⟨S', h1, h2, h3⟩ := h
  exact ⟨S', h1.below hb, h2.trans (T := fun _ => False) (below_keep hb) (fun _ _ h => h.elim), h3⟩
/-- A new row takes the old one's place. -/
theorem RL.fresh {w W2 : World} {g bu mo ac p c q c2 n a : Nat} {S : Nat → Prop} {fs ls : List Nat} (h : RL w g S bu mo fs ac p c) (hb : Below w.heap.size w W2) (ho : W2.ownsRow w.heap.size 3 1 (.slice (some ⟨q, 0, none⟩) n c2) n ((ls ++ [a]).map vi)) (hn : n = ls.length + 1) (hok : Ok bu mo ls a) :
    RWent w g S bu mo ls a (W2.setCell ⟨g, 2, none⟩ (.slice (some ⟨q, 0, none⟩) n c2)) := by
  subst hn
  have hq := ho.lt q rfl
  have hg := h.lt g h.sg
  have hk : Keep (· = g) W2 (W2.setCell ⟨g, 2, none⟩ (.slice (some ⟨q, 0, none⟩) (ls.length + 1) c2)) := (Keep.refl (fun k => k = g) _).setCell (p := ⟨g, 2, none⟩) (.inr rfl) _
  have hsz : (W2.setCell ⟨g, 2, none⟩ (.slice (some ⟨q, 0, none⟩) (ls.length + 1) c2)).heap.size = W2.heap.size := by simp [World.setCell]
  have hbs := hb.size
  refine ⟨fun k => k = g ∨ k = q, ⟨q, c2, (h.box.below hb hg).set 2 _, ?_, .inl rfl, .inr rfl, fun k hk => ?_, hok⟩, ?_, fun k hk => ?_⟩
  · refine own_lower (own_kept ho hk fun k hk2 e => ?_) (Nat.zero_le _)
    simp [Value.ownBlock] at hk2
    omega
  · rw [hsz]
    rcases hk with rfl | rfl <;> omega
  · exact (below_keep (S := S) hb).trans hk fun k _ e => by rw [e]; exact h.sg
  · rcases hk with rfl | rfl
    · exact .inl h.sg
    · exact .inr hq.1
/-- append(append([]int(nil), b.l...), 0), put in the row's place. -/
theorem RL.grow (h : RL w g S bu mo fs ac p c) (hr : fs.length < mo) : ∃ A1 c1 W1 q c2 W2,
    Sem.run Try.prog (Builtin.append_ #[23, 23] 23 #[.slice none 0 0, .slice (some ⟨p, 0, none⟩) (fs.length + 1) c]) w = .ok (.slice A1 (fs.length + 1) c1) W1 ∧
    Sem.run Try.prog (Builtin.append_ #[23, 23] 23 #[.slice A1 (fs.length + 1) c1, .slice (some ⟨W1.heap.size, 0, none⟩) 1 1]) (W1.alloc (.cells #[.int .i64 0] 3)) = .ok (.slice (some ⟨q, 0, none⟩) (fs.length + 1 + 1) c2) W2 ∧
    Lift.Box W2 g Ty.rbufs [vi bu, vi mo, .slice (some ⟨p, 0, none⟩) (fs.length + 1) c] ∧ RWent w g S bu mo (fs ++ [ac]) 0 (W2.setCell ⟨g, 2, none⟩ (.slice (some ⟨q, 0, none⟩) (fs.length + 1 + 1) c2)) := by
  obtain ⟨b1, b2, m1, m2, hl, he, ha⟩ := h.ok
  obtain ⟨A1, c1, W1, hr1, ho1, hb1⟩ := fresh_ints (some ⟨p, 0, none⟩) c w.heap.size (fs.length + 1) (fs ++ [ac]) w (h.lies.lies fun k hk => h.lt k hk.1) (by simp) (by omega)
  have ho1' : W1.ownsRow w.heap.size 3 1 (.slice A1 (fs.length + 1) c1) (fs ++ [ac]).length ((fs ++ [ac]).map vi) := by rw [List.length_append]; exact ho1
  obtain ⟨v2, W2, hr2, ho2, hon2⟩ := append_int 0 ho1' (by simp; omega) hb1.size
  have hlen : (fs ++ [ac] ++ [0]).length = fs.length + 1 + 1 := by simp
  rw [hlen] at ho2
  obtain ⟨q, c2, rfl, hq1, hq2⟩ := own_some ho2
  have hb2 : Below w.heap.size w W2 := hb1.trans (hon2.below ho1' hb1.size)
  exact ⟨A1, c1, W1, q, c2, W2, hr1, hr2, h.box.below hb2 (h.lt g h.sg), h.fresh hb2 ho2 (by simp) ⟨b1, b2, m1, m2, by rw [List.length_append]; exact hr, fun f hf => (List.mem_append.1 hf).elim (he f) fun h1 => by rw [List.mem_singleton.1 h1]; exact ha, Nat.zero_le _⟩⟩
theorem RL.put (h : RL w g S bu mo fs ac p c) {a : Nat} (ha : a ≤ bu) : RWent w g S bu mo fs a (w.setCell ⟨p, fs.length, none⟩ (vi a)) := by
  have hk : Keep (· = p) w (w.setCell ⟨p, fs.length, none⟩ (vi a)) := (Keep.refl (fun k => k = p) _).setCell (p := ⟨p, fs.length, none⟩) (.inr rfl) _
  have hsz : (w.setCell ⟨p, fs.length, none⟩ (vi a)).heap.size = w.heap.size := by simp [World.setCell]
  obtain ⟨b1, b2, m1, m2, hl, he, _⟩ := h.ok
  refine ⟨S, ⟨p, c, h.box.setOther (fun e => h.apart e.symm) _, ?_, h.sg, h.sp, fun k hk => by rw [hsz]; exact h.lt k hk, b1, b2, m1, m2, hl, he, ha⟩, hk.mono fun k hk => by rw [hk]; exact h.sp, fun k hk => .inl hk⟩
  have := (World.ownsRow.stored h.own fs.length (vi a)).1
  rw [List.map_append, List.set_append_right _ _ (by simp)] at this
  rw [List.map_append]
  simpa using this
set_option maxHeartbeats 400000 in
theorem rask_any (n : Int) (hn : -9223372036854775808 ≤ n ∧ n ≤ 9223372036854775807) (h : RB w g S bu mo fs ac) :
    Calls Try.prog (26) #[.pointer (some ⟨g, 0, none⟩), .int .i64 n] w fun e w' => e = .returned (vi (ask bu mo fs.length ac n.toNat)) ∧ ∃ m, w' = w.drewN m := by
  obtain ⟨k, hk⟩ : ∃ k : Nat, k = n.toNat := ⟨_, rfl⟩
  rw [← hk]
  obtain ⟨p, c, hl⟩ := id h
  obtain ⟨-, hb2, -, hm2, hlen, -, hact⟩ := hl.ok
  obtain ⟨f0, f1, f2, f3⟩ := hl.facts
  have H := Lib.hid h
  clear h hl
  go_enter (Try.func26), (Try.ntmps26)
  go_upto_if 6 with fail
  go_cut [1] (fun v wx => v = .int .i64 (k : Int) ∧ wx = w)
  case first =>
    by_cases z : n < 0
    · have z0 : decide (n < 0) = true := decide_eq_true z
      have e0 : (0 : Int) = (k : Int) := by omega
      clear hk
      go_wp2_with fail
      go_meet
      exact ⟨by rw [e0], rfl⟩
    · have z0 : decide (n < 0) = false := decide_eq_false z
      have e0 : n = (k : Int) := by omega
      have E0 := Lib.hid e0
      clear hk e0
      go_wp2_with fail
      go_meet
      exact ⟨by rw [E0.out], rfl⟩
  case rest =>
  obtain ⟨rfl, hw⟩ := hcut
  rw [hw]
  clear hw wc
  clear hk hn
  by_cases hk2 : bu < k
  · have d1 : decide (bu < k) = true := decide_eq_true hk2
    have d2 : (bu : Int) < (k : Int) := by omega
    have F := Lib.hid (ask_two (mo := mo) (k := fs.length) (ac := ac) hk2)
    clear hk2
    go_wp2_with fail
    go_ret
    exact ⟨by rw [F.out]; rfl, 0, rfl⟩
  · have d1 : decide (bu < k) = false := decide_eq_false hk2
    have HK := Lib.hid hk2
    have HO : Hid (∀ m, Calls Try.prog (65) #[.pointer (some ⟨g, 0, none⟩), .int .i64 (k : Int)] (w.drewN m) fun e w' => e = .returned (.bool (over bu ac k)) ∧ ∃ m', w' = (w.drewN m).drewN m') := Lib.hid fun m => rover_any k (H.out.below (Joins.below_draws _ _ m)) (by omega)
    clear hk2
    rcases ho : over bu ac k
    · have F := Lib.hid (ask_zero (mo := mo) (k := fs.length) (ac := ac) HK.out (.inl ho))
      rw [ho] at HO
      clear ho
      go_wp2_with fail
      go_quiet (first | (go_at_call 65; refine Calls.quiet_of (HO.out _)))
      go_wp2_with fail
      go_ret
      exact ⟨by rw [F.out]; rfl, _, rfl⟩
    · rw [ho] at HO
      by_cases hc : mo ≤ fs.length
      · have F := Lib.hid (ask_one HK.out ho hc)
        have d3 : decide (mo ≤ fs.length) = true := decide_eq_true hc
        clear ho hc
        go_wp2_with fail
        go_quiet (first | (go_at_call 65; refine Calls.quiet_of (HO.out _)))
        go_wp2_with fail
        go_ret
        exact ⟨by rw [F.out]; rfl, _, rfl⟩
      · have F := Lib.hid (ask_zero (ac := ac) HK.out (.inr hc))
        have d3 : decide (mo ≤ fs.length) = false := decide_eq_false hc
        clear ho hc
        go_wp2_with fail
        go_quiet (first | (go_at_call 65; refine Calls.quiet_of (HO.out _)))
        go_wp2_with fail
        go_ret
        exact ⟨by rw [F.out]; rfl, _, rfl⟩
end
end Go.Proofs.Ytmnhklfljfglhaa.Bu
