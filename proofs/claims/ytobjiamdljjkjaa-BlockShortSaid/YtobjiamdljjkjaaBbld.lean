/- The document's own packing: what build and Build answer. -/
import Derived.Test.YtobjiamdljjkjaaBmay
import Derived.Test.YtobjiamdljjkjaaCut
import Derived.Test.YtobjiamdljjkjaaPutv
import Derived.Test.YtobjiamdljjkjaaRef
import Derived.Deep.DeepCutAuto
namespace Go.Proofs.Ytobjiamdljjkjaa.Bk
set_option linter.unusedVariables false
set_option linter.unusedSimpArgs false
open Go.RowKit Lift Ik Sk Vn
set_option maxRecDepth 100000 in
theorem masked_any (A : Option Addr) (c B : Nat) (bs : List Nat) (w : World) (hl : Lies w B A (bs.map vb)) (hc : bs.length ≤ c) (hm : c ≤ maxLen) (h8 : ∀ c, c ∈ bs → c < 256) :
    Calls Try.prog 38 #[.slice A bs.length c] w (Made w.heap.size w (sum4 bs)) := by
  have h32 : Crc.crc Crc.ent bs ≤ 4294967295 := by unfold Crc.crc; omega
  have HS := Lib.hid (Crc.crc_any A c B bs w hl hc (Nat.le_trans hc hm) h8)
  have HM := Lib.hid (Crc.rmask_any (Crc.crc Crc.ent bs) w h32)
  have hml := Crc.maskN_lt (Crc.crc Crc.ent bs)
  have HL := Lib.hid (low_any none 0 0 (Crc.maskN (Crc.crc Crc.ent bs)) 4 [] w (.inl rfl) (by simp) (by omega) (by omega))
  unfold sum4
  clear hl h8
  generalize Crc.crc Crc.ent bs = C at *
  generalize Crc.maskN C = M at *
  go_enter Try.func38, Try.ntmps38
  go_wp2_with fail
  refine HS.out.mono ?_; rintro e w' ⟨rfl, rfl⟩
  go_wp2_with fail
  refine HM.out.mono ?_; rintro e w' ⟨rfl, rfl⟩
  go_wp2_with fail
  refine HL.out.mono ?_; rintro e W2 ⟨v, rfl, ho, hb⟩
  have HO := Lib.hid ho
  have HB := Lib.hid hb
  clear ho hb
  go_wp2_with fail
  go_ret
  exact ⟨_, rfl, HO.out, HB.out⟩
/-- The key's bytes of the last of some entries. -/
def lastK (last : List Nat) (ts : List T) : List Nat := (ts.getLast?.map fun t => bytesK t.k).getD last
theorem lastK_cons (last : List Nat) (t : T) (ts : List T) : lastK last (t :: ts) = lastK (bytesK t.k) ts := by
  unfold lastK
  cases ts with
  | nil => rfl
  | cons u us => rw [List.getLast?_cons_cons]; cases h : (u :: us).getLast? with
    | none => simp at h
    | some x => rfl
theorem lastK_snoc (last : List Nat) (t : T) (ts : List T) : lastK last (ts ++ [t]) = bytesK t.k := by unfold lastK; simp
theorem body_snoc (every : Nat) : ∀ (ts : List T) (t : T) (i : Nat) (last : List Nat), body every i last (ts ++ [t]) = body every i last ts ++ one (pre every (i + ts.length) (lastK last ts) (bytesK t.k)) t := by
  intro ts
  induction ts with
  | nil => intro t i last; simp [body, lastK]
  | cons u us ih =>
    intro t i last
    rw [List.cons_append]
    unfold body
    rw [ih, lastK_cons, List.append_assoc, List.length_cons, show i + 1 + us.length = i + (us.length + 1) by omega]
theorem ends_snoc (every : Nat) : ∀ (ts : List T) (t : T) (i : Nat) (last : List Nat) (o : Nat), ends every i last o (ts ++ [t]) = ends every i last o ts ++ (if (i + ts.length) % every = 0 then [o + (body every i last ts).length] else []) := by
  intro ts
  induction ts with
  | nil => intro t i last o; simp [ends, body]
  | cons u us ih =>
    intro t i last o
    rw [List.cons_append]
    unfold ends body
    rw [ih, List.append_assoc, List.length_append, List.length_cons, show i + 1 + us.length = i + (us.length + 1) by omega, Nat.add_assoc]
/-- How long packed entries may be. -/
theorem one_max {t : T} (h : okT t = true) (c : Nat) : (one c t).length ≤ 4400 := by
  have h1 := (enc_len c).2
  have h2 := (enc_len ((bytesK t.k).length - c)).2
  have h3 := (enc_len t.val.length).2
  have h4 := kb_len h
  have h5 := okT_val h
  unfold one
  simp only [List.length_append, List.length_drop]
  omega
theorem body_max (every : Nat) : ∀ (ts : List T) (i : Nat) (last : List Nat), (∀ t, t ∈ ts → okT t = true) → (body every i last ts).length ≤ 4400 * ts.length := by
  intro ts
  induction ts with
  | nil => intro i last _; simp [body]
  | cons t ts ih =>
    intro i last h
    have h1 := one_max (h t (by simp)) (pre every i last (bytesK t.k))
    have h2 := ih (i + 1) (bytesK t.k) fun u hu => h u (by simp [hu])
    unfold body
    rw [List.length_append, List.length_cons]
    omega
theorem kb_byte {a : K} (h : a.ok) : ∀ c, c ∈ bytesK a → c < 256 := by
  intro c hc
  unfold bytesK at hc
  split at hc
  · rcases List.mem_append.1 hc with h1 | h1
    · exact h.1 c h1
    · exact low_byte _ _ c h1
  · simp at hc
theorem one_byte {t : T} (ht : okT t = true) (hk : t.k.ok) (hv : ∀ c, c ∈ t.val → c < 256) (c : Nat) (hc : c ≤ 300) : ∀ x, x ∈ one c t → x < 256 := by
  intro x hx
  have h4 := kb_len ht
  have h5 := okT_val ht
  unfold one at hx
  rcases List.mem_append.1 hx with h | h
  · exact enc_byte c (by omega) x h
  · rcases List.mem_append.1 h with h | h
    · exact enc_byte _ (by omega) x h
    · rcases List.mem_append.1 h with h | h
      · exact enc_byte _ (by omega) x h
      · rcases List.mem_append.1 h with h | h
        · exact kb_byte hk x (List.mem_of_mem_drop h)
        · exact hv x h
theorem body_byte (every : Nat) : ∀ (ts : List T) (i : Nat) (last : List Nat), (∀ t, t ∈ ts → okT t = true ∧ t.k.ok ∧ ∀ c, c ∈ t.val → c < 256) → ∀ x, x ∈ body every i last ts → x < 256 := by
  intro ts
  induction ts with
  | nil => intro i last _ x hx; simp [body] at hx
  | cons t ts ih =>
    intro i last h x hx
    unfold body at hx
    obtain ⟨h1, h2, h3⟩ := h t (by simp)
    rcases List.mem_append.1 hx with hx | hx
    · refine one_byte h1 h2 h3 _ ?_ x hx
      have := pre_le every i last (bytesK t.k)
      have := (com_le last (bytesK t.k)).2
      have := (kb_len h1).2
      omega
    · exact ih (i + 1) (bytesK t.k) (fun u hu => h u (by simp [hu])) x hx
theorem flat4_byte (es : List Nat) : ∀ x, x ∈ es.flatMap (fun e => low e 4) → x < 256 := by
  intro x hx
  obtain ⟨e, _, h⟩ := List.mem_flatMap.1 hx
  exact low_byte e 4 x h
/-- Bytes in a slice, wherever they lie. -/
def Byts (w : World) (v : Value) (bs : List Nat) : Prop := ∃ A c, v = .slice A bs.length c ∧ bs.length ≤ c ∧ c ≤ maxLen ∧ Lies w w.heap.size A (bs.map vb)
theorem Byts.below {w w' : World} {v : Value} {bs : List Nat} (h : Byts w v bs) (hb : Below w.heap.size w w') : Byts w' v bs := by
  obtain ⟨A, c, rfl, h1, h2, h3⟩ := h
  exact ⟨A, c, rfl, h1, h2, (h3.below hb).up hb.size⟩
theorem made_byts {B : Nat} {w w' : World} {bs : List Nat} {e : Ending} (h : Made B w bs e w') : ∃ v, e = .returned v ∧ w'.ownsRow B 5 1 v bs.length (bs.map vb) ∧ Byts w' v bs ∧ Below B w w' := by
  obtain ⟨v, rfl, ho, hb⟩ := h
  obtain ⟨A, c, rfl, hc, hm, hl⟩ := own_parts ho
  exact ⟨_, rfl, ho, ⟨A, c, rfl, hc, hm, hl⟩, hb⟩
end Go.Proofs.Ytobjiamdljjkjaa.Bk
