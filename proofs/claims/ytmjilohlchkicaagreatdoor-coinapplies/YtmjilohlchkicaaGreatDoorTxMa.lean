/- A payment without its keys; a payment's bytes are bytes. -/
import Derived.Test.YtmjilohlchkicaaGreatDoorZTc
namespace Go.Proofs.YtmjilohlchkicaaGreatDoor.Tm
set_option linter.unusedVariables false

theorem flat_byt {α : Type} (f : α → List Int) (l : List α) (h : ∀ x ∈ l, Sz.Byt (f x)) : Sz.Byt (l.map f).flatten := by
  induction l with
  | nil => exact Sz.Byt.nil
  | cons x r ih =>
    rw [List.map_cons, List.flatten_cons]
    exact (h x (by simp)).append (ih (fun y hy => h y (by simp [hy])))
theorem pk_byt (l : List Int) (h : Sz.Byt l) : Sz.Byt (Sz.pk l) := (Sz.wr_byt _ (by omega)).append h
/-- All that is bytes in it is bytes. -/
def TBt (t : Tx) : Prop := (∀ i ∈ t.ins, dOk i.tx ∧ ∀ k ∈ i.keys, Sz.Byt k) ∧ ∀ o ∈ t.outs, ∀ x ∈ o.lock, Sz.Byt x.data
theorem bytes_byt (t : Tx) (hc : check t = 0) (hb : TBt t) : Sz.Byt (bytes t) := by
  obtain ⟨k1, k2, k3, k4, k5, k6, k7⟩ := check_zero t hc
  refine (Sz.wr_byt _ (by omega)).append (Sz.Byt.append (flat_byt _ _ fun i hi => ?_) ((Sz.wr_byt _ (by omega)).append (Sz.Byt.append (flat_byt _ _ fun o ho => ?_) (Sz.wr_byt _ k4))))
  · obtain ⟨a, b, c⟩ := insF_zero _ _ k6 i hi
    obtain ⟨d, e⟩ := hb.1 i hi
    exact Sz.Byt.append d.2 ((Sz.wr_byt _ a).append ((Sz.wr_byt _ (by omega)).append (flat_byt _ _ fun k hk => pk_byt k (e k hk))))
  · obtain ⟨a, b⟩ := outsF_zero _ k7 o ho
    obtain ⟨c, d⟩ := lock_ok _ b
    refine (Sz.wr_byt _ a.1).append ((Sz.wr_byt _ (by omega)).append (flat_byt _ _ fun x hx => ?_))
    obtain ⟨e1, e2, e3, e4, e5⟩ := d x hx
    exact (Sz.wr_byt _ (by omega)).append ((Sz.wr_byt _ e3).append (pk_byt _ (hb.2 o ho x hx)))
theorem insF_bare : ∀ (l : List In) (ah : List (List Int × Int)), insF ah l = 0 → insF ah (l.map bareI) = 0 := by
  intro l
  induction l with
  | nil => intro ah h; exact h
  | cons x r ih =>
    intro ah h
    rw [insF] at h
    by_cases hx : inF ah x = 0
    · rw [if_pos hx] at h
      obtain ⟨h1, h2, h3, h4⟩ := inF_zero ah x hx
      have hb : inF ah (bareI x) = 0 := by
        unfold inF bareI
        dsimp only
        rw [if_neg (by omega), if_neg h3]
        rfl
      rw [List.map_cons, insF, if_pos hb]
      exact ih _ h
    · rw [if_neg hx] at h; exact absurd h hx
set_option maxRecDepth 100000 in
theorem check_bare (t : Tx) (h : check t = 0) : check (bare t) = 0 := by
  obtain ⟨k1, k2, k3, k4, k5, k6, k7⟩ := check_zero t h
  unfold check bare
  dsimp only
  rw [List.length_map, if_neg (by omega), if_neg (by omega), if_neg (by omega), if_pos (insF_bare _ _ k6)]
  exact k7
theorem bare_byt (t : Tx) (h : TBt t) : TBt (bare t) := by
  refine ⟨fun i hi => ?_, h.2⟩
  obtain ⟨j, hj, rfl⟩ := List.mem_map.1 hi
  exact ⟨(h.1 j hj).1, fun k hk => by cases hk⟩
theorem idText_byt (t : Tx) (hc : check t = 0) (hb : TBt t) : Sz.Byt (idText t) := fun x hx => by
  rcases List.mem_cons.1 hx with rfl | hx
  · omega
  · exact bytes_byt _ (check_bare t hc) (bare_byt t hb) x hx
/-- Two payments whose texts are one are the same but for their keys. -/
theorem bare_of_text (t u : Tx) (ht : check t = 0) (hu : check u = 0) (bt : TBt t) (bu : TBt u) (h : idText t = idText u) : bare t = bare u := by
  have h2 : bytes (bare t) = bytes (bare u) := by injection h
  have r1 := read_bytes (bare t) (check_bare t ht) (fun i hi => ((bare_byt t bt).1 i hi).1)
  have r2 := read_bytes (bare u) (check_bare u hu) (fun i hi => ((bare_byt u bu).1 i hi).1)
  rw [h2, r2] at r1
  exact (Option.some.inj r1).symm
/-- A payment with the keys of another one. -/
def rekey : List In → List In → List In
  | i :: r, j :: s => { i with keys := j.keys } :: rekey r s
  | l, _ => l
theorem rekey_bare : ∀ (a b : List In), a.map bareI = b.map bareI → rekey a b = b
  | [], [], _ => rfl
  | [], _ :: _, h => by cases h
  | _ :: _, [], h => by cases h
  | i :: r, j :: s, h => by
    simp only [List.map_cons, List.cons.injEq] at h
    rw [rekey, rekey_bare r s h.2]
    have := h.1
    unfold bareI at this
    obtain ⟨i1, i2, i3⟩ := i
    obtain ⟨j1, j2, j3⟩ := j
    simp only [In.mk.injEq] at this
    rw [this.1, this.2.1]
theorem rekey_tx (t u : Tx) (h : bare u = bare t) : (⟨rekey u.ins t.ins, u.outs, u.time⟩ : Tx) = t := by
  unfold bare at h
  cases t; cases u
  simp only [Tx.mk.injEq] at h ⊢
  exact ⟨rekey_bare _ _ h.1, h.2.1, h.2.2⟩
end Go.Proofs.YtmjilohlchkicaaGreatDoor.Tm
namespace Go.Proofs.YtmjilohlchkicaaGreatDoor
theorem HasTx.byt {w : World} {t : TxV} (h : HasTx w t) : Tm.TBt t.it := by
  refine ⟨fun i hi => ?_, fun o ho x hx => ?_⟩
  · obtain ⟨j, hj, rfl⟩ := List.mem_map.1 hi
    obtain ⟨a, b, c⟩ := h.1.2 j hj
    refine ⟨⟨a, b⟩, fun k hk => ?_⟩
    obtain ⟨p, hp, rfl⟩ := List.mem_map.1 hk
    exact (c.2 p hp).2
  · obtain ⟨j, hj, rfl⟩ := List.mem_map.1 ho
    simp only [OutV.it, opsOf, List.mem_map] at hx
    obtain ⟨p, hp, rfl⟩ := hx
    exact ((h.2.2 j hj).2 p hp).2
theorem HasTx.sent {w : World} {t : TxV} (h : HasTx w t) (hc : Tm.check t.it = 0) : Sz.Byt (Tm.bytes t.it) ∧ Tm.read (Tm.bytes t.it) = some t.it :=
  ⟨Tm.bytes_byt _ hc h.byt, Tm.read_bytes _ hc (fun i hi => (h.byt.1 i hi).1)⟩
theorem bytes_le (t : Tm.Tx) (hc : Tm.check t = 0) (hb : Tm.TBt t) : (Tm.bytes t).length ≤ 10000000 := by
  obtain ⟨k1, k2, k3, k4, k5, k6, k7⟩ := Tm.check_zero t hc
  have a1 := Sz.wr_le9 (t.ins.length : Nat)
  have a2 := Sz.wr_le9 (t.outs.length : Nat)
  have a3 := Sz.wr_le9 t.time
  have flat : ∀ {α : Type} (f : α → List Int) (m : Nat) (l : List α), (∀ x ∈ l, (f x).length ≤ m) → ((l.map f).flatten).length ≤ l.length * m := by
    intro α f m l
    induction l with
    | nil => intro _; simp
    | cons x r ih =>
      intro h
      have h1 := ih (fun y hy => h y (by simp [hy]))
      have h2 := h x (by simp)
      rw [List.map_cons, List.flatten_cons, List.length_append, List.length_cons, Nat.succ_mul]
      omega
  have pkl : ∀ l : List Int, (Sz.pk l).length ≤ l.length + 9 := fun l => by rw [Sz.pk_length]; have := Sz.wr_le9 (l.length : Nat); omega
  have i1 : ((t.ins.map Tm.inB).flatten).length ≤ t.ins.length * 90400 := flat _ _ _ fun i hi => by
    obtain ⟨a, b, c⟩ := Tm.insF_zero _ _ k6 i hi
    obtain ⟨d, e⟩ := Tm.keysF_zero _ c
    have b1 := Sz.wr_le9 i.at'
    have b2 := Sz.wr_le9 (i.keys.length : Nat)
    have b3 := flat Sz.pk 3009 i.keys (fun k hk => by have := pkl k; have := e k hk; omega)
    have b4 : i.keys.length * 3009 ≤ 30 * 3009 := Nat.mul_le_mul d (Nat.le_refl _)
    have b5 := (hb.1 i hi).1.1
    unfold Tm.inB
    simp only [List.length_append]
    omega
  have o1 : ((t.outs.map Tm.outB).flatten).length ≤ t.outs.length * 20000 := flat _ _ _ fun o ho => by
    obtain ⟨a, b⟩ := Tm.outsF_zero _ k7 o ho
    obtain ⟨c, d⟩ := Tm.lock_ok _ b
    have b1 := Sz.wr_le9 o.amount
    have b2 := Sz.wr_le9 (o.lock.length : Nat)
    have b3 := flat Tm.opB 327 o.lock (fun x hx => by
      obtain ⟨e1, e2, e3, e4, e5⟩ := d x hx
      have c1 := Sz.wr_le9 x.op
      have c2 := Sz.wr_le9 x.n
      have c3 := pkl x.data
      unfold Tm.opB
      simp only [List.length_append]
      omega)
    have b4 : o.lock.length * 327 ≤ 60 * 327 := Nat.mul_le_mul c (Nat.le_refl _)
    unfold Tm.outB
    simp only [List.length_append]
    omega
  have i2 : t.ins.length * 90400 ≤ 40 * 90400 := Nat.mul_le_mul k1 (Nat.le_refl _)
  have o2 : t.outs.length * 20000 ≤ 40 * 20000 := Nat.mul_le_mul k2 (Nat.le_refl _)
  unfold Tm.bytes
  simp only [List.length_append]
  omega
end Go.Proofs.YtmjilohlchkicaaGreatDoor
